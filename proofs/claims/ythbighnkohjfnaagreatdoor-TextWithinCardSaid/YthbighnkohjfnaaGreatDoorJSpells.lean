import Derived.OwnWalk
import Derived.Lib.Strings
import Derived.Lib.IndexBytes
import Derived.Test.YthbighnkohjfnaaGreatDoorJLaidErr
import Derived.Deep.LoopGhost
import Derived.Lib.AppendStr
import Derived.WalkMore
/-
  CONTRACTS of what reads a text: readBytes.
-/
namespace Go.Proofs.YthbighnkohjfnaaGreatDoor
open Go.RowKit Go.Shelf

/-- What is still to be read is what is left of the bytes' text. -/
def Left (b : UInt8 → List UInt8) (l : List UInt8) (pre : List UInt8) (r : List UInt8) : Prop := ∀ t, flatL b t = l → ∃ t', t = pre ++ t' ∧ flatL b t' = r
theorem left_new (b : UInt8 → List UInt8) (l : List UInt8) : Left b l [] l := fun t h => ⟨t, rfl, h⟩
theorem left_hex {l pre : List UInt8} {r : List UInt8} (h : Left hexL l pre r) (hne : r ≠ []) : (rhL r).2 = true → Left hexL l (pre ++ [(rhL r).1]) (r.drop 2) := fun _ t ht => by
  obtain ⟨t', h1, h2⟩ := h t ht
  cases t' with
  | nil => exact absurd h2.symm hne
  | cons d t'' =>
    have h3 : r = hexL d ++ flatL hexL t'' := h2.symm
    rw [h3, rhL_hexL]
    exact ⟨t'', by rw [h1]; simp, by simp [hexL]⟩
theorem left_no {l pre : List UInt8} {r : List UInt8} (h : Left hexL l pre r) (hne : r ≠ []) (ho : (rhL r).2 = false) (t : List UInt8) : flatL hexL t ≠ l := fun ht => by
  obtain ⟨t', h1, h2⟩ := h t ht
  cases t' with
  | nil => exact hne h2.symm
  | cons d t'' =>
    have h3 : r = hexL d ++ flatL hexL t'' := h2.symm
    rw [h3, rhL_hexL] at ho
    cases ho

theorem str_nil {r : ByteArray} (h : r.size = 0) : r.data.toList = [] := by
  rw [← List.length_eq_zero_iff]; exact h
theorem left_end {b : UInt8 → List UInt8} (hb : ∀ c, b c ≠ []) {l pre : List UInt8} {r : ByteArray} (hr : r.size = 0) (h : Left b l pre r.data.toList) (t : List UInt8) (ht : flatL b t = l) : t = pre := by
  obtain ⟨t', h1, h2⟩ := h t ht
  rw [str_nil hr] at h2
  cases t' with
  | nil => rw [h1, List.append_nil]
  | cons d t'' =>
    have h3 : b d ++ flatL b t'' = [] := h2
    exact absurd (List.append_eq_nil_iff.1 h3).1 (hb d)
theorem hexL_ne (c : UInt8) : hexL c ≠ [] := by simp [hexL]
theorem escL_ne (c : UInt8) : escL c ≠ [] := by unfold escL; split <;> simp [hexL]

/-- An owned row, behind a call of which 'Below' is known. -/
theorem row_below {w w' : World} {base : Nat} {e : TypeId} {size k : Nat} {v : Value} {xs : List Value} (h : w.ownsRow base e size v k xs) (hb : Below w.heap.size w w') : w'.ownsRow base e size v k xs := by
  refine h.kept (grown_of_below hb) ?_
  rcases h.2 with ⟨rfl, _⟩ | ⟨g, cap, cur, rfl, _, hgb, _⟩
  · exact .inl rfl
  · exact .inr (by simp [Value.ownBlock])
theorem res_grown {w W w1 : World} {e : TypeId} {size k : Nat} {v : Value} {xs : List Value} {tmp : Obj} (h : Res w W) (hr : W.ownsRow (w.heap.size + 1) e size v k xs) (hg : (W.alloc tmp).grownBy w1 v.ownBlock) : Res w w1 := by
  refine h.next (B := w.heap.size + 1) (((Below.refl _ W).alloc h.size tmp).grown hg (by have := h.size; simp; omega) (fun j ej => ?_)) (by omega)
  rcases hr.2 with ⟨rfl, _⟩ | ⟨g, cap, cur, rfl, hb, _, _⟩
  · simp [Value.ownBlock] at ej
  · obtain rfl : g = j := by simpa [Value.ownBlock] using ej
    exact hb

/-- What readBytes, readText answer. -/
def BytesEnds (k : Int) (b : UInt8 → List UInt8) (l : List UInt8) (e : Ending) : Prop :=
  ∃ (k' : Int) (t : ByteArray) (ok : Bool), e = .returned (.tuple #[.agg #[.int .i64 k', .int .i64 0, .string t], .bool ok]) ∧ (ok = true → t.size ≤ maxLen) ∧ (∀ u, flatL b u = l → k' = k ∧ t = ⟨u.toArray⟩ ∧ ok = true)
theorem bytes_no {k : Int} {b : UInt8 → List UInt8} {l : List UInt8} (h : ∀ t, flatL b t ≠ l) : BytesEnds k b l (.returned (.tuple #[.agg #[.int .i64 0, .int .i64 0, .string ⟨#[]⟩], .bool false])) :=
  ⟨0, _, false, rfl, (fun h => by cases h), fun u hu => absurd hu (h u)⟩
theorem bytes_done {k : Int} {b : UInt8 → List UInt8} {l pre : List UInt8} (h : ∀ t, flatL b t = l → t = pre) (hl : pre.length ≤ maxLen) : BytesEnds k b l (.returned (.tuple #[.agg #[.int .i64 k, .int .i64 0, .string ⟨pre.toArray⟩], .bool true])) :=
  ⟨k, _, true, rfl, fun _ => by rw [size_mk]; exact hl, fun u hu => ⟨rfl, by rw [h u hu], rfl⟩⟩

theorem drop2 (r : ByteArray) : (r.extract 2 r.size).data.toList = r.data.toList.drop 2 := by
  exact Lib.extract_to_end r 2
theorem drop2_size (r : ByteArray) : (r.extract 2 r.size).size = r.size - 2 := by
  have h1 := congrArg List.length (drop2 r)
  rw [List.length_drop] at h1
  exact h1

set_option maxRecDepth 100000 in
set_option maxHeartbeats 2000000 in
theorem readBytes_any (s : ByteArray) (w : World) (hs : s.size ≤ 4000) :
    Calls Tryz.prog 106 #[.string s] w fun e w' => BytesEnds 4 hexL s.data.toList e ∧ Below w.heap.size w w' := by
  obtain ⟨i0, hi, hz0, hz1, hz2⟩ := info_parts info8
  have hmx : 5000 ≤ maxLen := by decide
  have r0 := res_new w 35
  go_enter Tryz.func106, Tryz.ntmps106
  go_wp2
  go_loopw [0, 4] (fun x v wr => ∃ (r : ByteArray) (pre : List UInt8), x = .string r ∧ Left hexL s.data.toList pre r.data.toList ∧ pre.length + r.size ≤ 4000 ∧ Res w wr ∧ wr.ownsRow (w.heap.size + 1) 5 1 v pre.length (pre.map (fun c : UInt8 => Value.int .u8 c.toNat))) (fun x _ _ => match x with | .string r => r.size | _ => 0)
  case atStart => exact ⟨s, [], rfl, left_new _ _, by simpa using hs, r0, World.ownsRow_nil _ _ _ _⟩
  case round =>
    obtain ⟨r, pre, rfl, hL, hlen, hR, hrow⟩ := hrel
    have HL := Lib.hid hL
    clear hL r0
    by_cases hr : r.size = 0
    · have he := emp_yes hr
      have hcv := own_string wr _ _ _ hrow
      have e0 := hR.c0
      have e1 := hR.c1
      have e2 := hR.c2
      have f0 := hR.f0
      have f1 := hR.f1
      have f2 := hR.f2
      have HR0 := Lib.hid hr
      clear hr
      go_wp2
      refine bodyPost_ret (v := .tuple #[.agg #[.int .i64 4, .int .i64 0, .string ⟨pre.toArray⟩], .bool true]) ?_ rfl ⟨bytes_done (left_end hexL_ne HR0.out HL.out) (by omega), ?_⟩
      · rw [results_cell_tmp rfl]; go_simp
      · exact ((hR.low.setCell (p := ⟨w.heap.size, 0, none⟩) (Nat.le_refl _) _).setCell (p := ⟨w.heap.size, 1, none⟩) (Nat.le_refl _) _).setCell (p := ⟨w.heap.size, 2, none⟩) (Nat.le_refl _) _
    · have hp : 0 < r.size := by omega
      have he := emp_no hp
      have hn := emp_ne hp
      have hne : r.data.toList ≠ [] := by rw [← ByteArray.toList_eq]; exact hn
      clear hr
      have HNE := Lib.hid hne
      clear hne
      go_wp2_with fail
      refine (readHex_any r _ (by omega)).mono ?_
      rintro e w2 ⟨he2, hb2⟩
      unfold RhEnd at he2
      obtain ⟨c, ok, hc⟩ : ∃ c ok, rhL r.data.toList = (c, ok) := ⟨_, _, rfl⟩
      rw [hc] at he2
      simp only at he2
      subst he2
      have hR2 : Res w w2 := hR.next hb2 hR.size
      have hrow2 := row_below hrow hb2
      clear hR hrow hb2
      cases ok
      · have hF : Hid (∀ t, flatL hexL t ≠ s.data.toList) := left_no HL.out HNE.out (by rw [hc])
        have e0 := hR2.c0
        have e1 := hR2.c1
        have e2 := hR2.c2
        have f0 := hR2.f0
        have f1 := hR2.f1
        have f2 := hR2.f2
        clear hc
        go_wp2
        refine bodyPost_ret (v := .tuple #[.agg #[.int .i64 0, .int .i64 0, .string ⟨#[]⟩], .bool false]) ?_ rfl ⟨bytes_no hF.out, ?_⟩
        · rw [results_cell_tmp rfl]; go_simp
        · exact ((hR2.low.setCell (p := ⟨w.heap.size, 0, none⟩) (Nat.le_refl _) _).setCell (p := ⟨w.heap.size, 1, none⟩) (Nat.le_refl _) _).setCell (p := ⟨w.heap.size, 2, none⟩) (Nat.le_refl _) _
      · have hL2 := left_hex HL.out HNE.out (by rw [hc])
        rw [hc] at hL2
        simp only at hL2
        rw [← drop2] at hL2
        have h2 : 2 ≤ r.size := by have h9 := rhL_ok (l := r.data.toList) (by rw [hc]); exact h9
        have hd := drop2_size r
        have hd2 : pre.length + 1 + (r.extract 2 r.size).size ≤ 4000 := by omega
        have hd3 : (r.extract 2 r.size).size < r.size := by omega
        have HL2 := Lib.hid hL2
        have HD2 := Lib.hid hd2
        have HD3 := Lib.hid hd3
        clear hc hL2 hd hd2 hd3
        go_wp2_with (at_builtin; refine wpList_append_own _ rfl _ _ 61 rfl (w.heap.size + 1) 5 i0 (.int .u8 0) 1 1 Tryz.underlying61 hi hz0 hz1 hz2 rfl (by decide) _ _ _ rfl (hrow2.alloc _) ⟨w2.heap.size, 0, none⟩ 1 1 [.int .u8 c.toNat] rfl rfl (cell_one_new _ _ _) (by simp [Value.oneCell']) (by omega) (by omega) (by have := hR2.size; simp; omega) ?_; intro v' w3 hown' hgrow _)
        have hR3 := res_grown hR2 hrow2 hgrow
        have hown3 : w3.ownsRow (w.heap.size + 1) 5 1 v' (pre ++ [c]).length ((pre ++ [c]).map (fun c : UInt8 => Value.int .u8 c.toNat)) := by simpa using hown'
        clear hown' hgrow hrow2 hR2
        go_wp2
        go_roundw
        case rel => exact ⟨_, pre ++ [c], rfl, HL2.out, by rw [List.length_append]; exact HD2.out, hR3, hown3⟩
        case measure => exact HD3.out

end Go.Proofs.YthbighnkohjfnaaGreatDoor

/-
  CONTRACTS of what reads a text: readText.
-/
namespace Go.Proofs.YthbighnkohjfnaaGreatDoor
open Go.RowKit Go.Shelf

/-- no byte of p is an escape's -/
def NoEsc (p : List UInt8) : Prop := ∀ c ∈ p, c ≠ 92
theorem plain_ne {c : UInt8} (h : plainB c.toNat = true) : c ≠ 92 := by
  intro e; subst e; simp [plainB] at h
theorem esc_found : ∀ (p t rest : List UInt8), NoEsc p → flatL escL t = p ++ 92 :: rest → ∃ d t', t = p ++ d :: t' ∧ rest = hexL d ++ flatL escL t'
  | [], t, rest, _, h => by
    cases t with
    | nil => simp [flatL] at h
    | cons d t' =>
      have h2 : escL d ++ flatL escL t' = 92 :: rest := h
      by_cases hp : plainB d.toNat = true
      · rw [escL_plain hp] at h2
        injection h2 with h3 _
        exact absurd h3 (plain_ne hp)
      · rw [escL_not (by simpa using hp)] at h2
        injection h2 with _ h4
        exact ⟨d, t', rfl, h4.symm⟩
  | c :: p, t, rest, hn, h => by
    cases t with
    | nil => simp [flatL] at h
    | cons d t' =>
      have h2 : escL d ++ flatL escL t' = c :: (p ++ 92 :: rest) := h
      have hc : c ≠ 92 := hn c (by simp)
      by_cases hp : plainB d.toNat = true
      · rw [escL_plain hp] at h2
        injection h2 with h3 h4
        obtain ⟨e, t'', h5, h6⟩ := esc_found p t' rest (fun x hx => hn x (by simp [hx])) h4
        exact ⟨e, t'', by rw [h3, h5]; rfl, h6⟩
      · rw [escL_not (by simpa using hp)] at h2
        injection h2 with h3 _
        exact absurd h3.symm hc
theorem esc_none : ∀ (t r : List UInt8), NoEsc r → flatL escL t = r → t = r
  | [], r, _, h => h
  | d :: t, r, hn, h => by
    have h2 : escL d ++ flatL escL t = r := h
    by_cases hp : plainB d.toNat = true
    · rw [escL_plain hp] at h2
      rw [← h2] at hn ⊢
      have h3 := esc_none t (flatL escL t) (fun x hx => hn x (by simp [hx])) rfl
      rw [← h3]; rfl
    · rw [escL_not (by simpa using hp)] at h2
      rw [← h2] at hn
      exact absurd rfl (hn 92 (by simp))

/-- What readText answers. -/
def TxtEnds (l : List UInt8) (e : Ending) : Prop :=
  ∃ (k' : Int) (t : ByteArray) (ok : Bool), e = .returned (.tuple #[.agg #[.int .i64 k', .int .i64 0, .string t], .bool ok]) ∧ (ok = true → t.size ≤ maxLen) ∧ (∀ u, flatL escL u ++ [34] = l → k' = 3 ∧ t = ⟨u.toArray⟩ ∧ ok = true)
theorem txt_no {l : List UInt8} (h : ∀ t, flatL escL t ++ [34] ≠ l) : TxtEnds l (.returned (.tuple #[.agg #[.int .i64 0, .int .i64 0, .string ⟨#[]⟩], .bool false])) :=
  ⟨0, _, false, rfl, (fun h => by cases h), fun u hu => absurd hu (h u)⟩
theorem txt_of {l m : List UInt8} (hl : l = m ++ [34]) {e : Ending} (h : BytesEnds 3 escL m e) : TxtEnds l e := by
  obtain ⟨k, t, ok, h1, h2, h3⟩ := h
  refine ⟨k, t, ok, h1, h2, fun u hu => ?_⟩
  rw [hl] at hu
  exact h3 u (List.append_cancel_right hu)

/-- behind an escape -/
theorem left_esc {l pre p rest : List UInt8} (h : Left escL l pre (p ++ 92 :: rest)) (hn : NoEsc p) : (rhL rest).2 = true → Left escL l (pre ++ p ++ [(rhL rest).1]) (rest.drop 2) := fun _ t ht => by
  obtain ⟨t', h1, h2⟩ := h t ht
  obtain ⟨d, t'', h3, h4⟩ := esc_found p t' rest hn h2
  rw [h4, rhL_hexL]
  exact ⟨t'', by rw [h1, h3]; simp, by simp [hexL]⟩
theorem left_esc_no {l pre p rest : List UInt8} (h : Left escL l pre (p ++ 92 :: rest)) (hn : NoEsc p) (ho : (rhL rest).2 = false) (t : List UInt8) : flatL escL t ≠ l := fun ht => by
  obtain ⟨t', h1, h2⟩ := h t ht
  obtain ⟨d, t'', h3, h4⟩ := esc_found p t' rest hn h2
  rw [h4, rhL_hexL] at ho
  cases ho
theorem left_plain {l pre r : List UInt8} (h : Left escL l pre r) (hn : NoEsc r) (t : List UInt8) (ht : flatL escL t = l) : t = pre ++ r := by
  obtain ⟨t', h1, h2⟩ := h t ht
  rw [h1, esc_none t' r hn h2]

theorem split_at (r : ByteArray) (j : Nat) (h : j < r.size) : r.data.toList = r.data.toList.take j ++ r[j] :: r.data.toList.drop (j + 1) := by
  rw [← drop_at r j h, List.take_append_drop]

theorem drop_to (r : ByteArray) (k : Nat) : (r.extract k r.size).data.toList = r.data.toList.drop k := by
  exact Lib.extract_to_end r k
theorem drop_to_size (r : ByteArray) (k : Nat) : (r.extract k r.size).size = r.size - k := by
  have h1 := congrArg List.length (drop_to r k)
  rw [List.length_drop] at h1
  exact h1
theorem res_grown0 {w W w1 : World} {e : TypeId} {size k : Nat} {v : Value} {xs : List Value} (h : Res w W) (hr : W.ownsRow (w.heap.size + 1) e size v k xs) (hg : W.grownBy w1 v.ownBlock) : Res w w1 := by
  refine h.next (B := w.heap.size + 1) ((Below.refl _ W).grown hg (by have := h.size; omega) (fun j ej => ?_)) (by omega)
  rcases hr.2 with ⟨rfl, _⟩ | ⟨g, cap, cur, rfl, hb, _, _⟩
  · simp [Value.ownBlock] at ej
  · obtain rfl : g = j := by simpa [Value.ownBlock] using ej
    exact hb
theorem cells_app (pre : List UInt8) (r : ByteArray) : pre.map (fun c : UInt8 => Value.int .u8 c.toNat) ++ Lib.strCells r = (pre ++ r.data.toList).map (fun c : UInt8 => Value.int .u8 c.toNat) := by
  rw [List.map_append]; rfl
theorem len_app (pre : List UInt8) (r : ByteArray) : pre.length + r.size = (pre ++ r.data.toList).length := by
  rw [List.length_append]
  have : r.data.toList.length = r.size := Array.length_toList
  omega
theorem suf_yes {l : List UInt8} (h : Lib.hasSuffix l [34] = true) : l = Lib.trimSuffix l [34] ++ [34] := by
  have h1 : [34] <:+ l := List.isSuffixOf_iff_suffix.1 h
  obtain ⟨t, ht⟩ := h1
  unfold Lib.trimSuffix
  rw [if_pos h, ← ht]
  simp
theorem suf_no {l : List UInt8} (h : Lib.hasSuffix l [34] = false) (t : List UInt8) : flatL escL t ++ [34] ≠ l := by
  intro e
  have h1 : Lib.hasSuffix l [34] = true := List.isSuffixOf_iff_suffix.2 ⟨_, e⟩
  rw [h1] at h; cases h
theorem noEsc_step {r : ByteArray} {j : Nat} (h : j < r.size) (hn : NoEsc (r.data.toList.take j)) (hc : ((r[j].toNat : Int) != 92) = true) : NoEsc (r.data.toList.take (j + 1)) := by
  intro c hm
  rw [List.take_add_one] at hm
  rcases List.mem_append.1 hm with hm | hm
  · exact hn c hm
  · have hg : r.data.toList[j]? = some r[j] := by
      have := split_at r j h
      rw [this, List.getElem?_append_right (by simp; omega)]
      have hl : (List.take j r.data.toList).length = j := by
        rw [List.length_take]
        have : r.data.toList.length = r.size := Array.length_toList
        omega
      simp [hl]
    rw [hg] at hm
    simp at hm
    subst hm
    intro e
    rw [e] at hc
    simp at hc
theorem noEsc_all {r : ByteArray} {j : Nat} (h : ¬ j < r.size) (hn : NoEsc (r.data.toList.take j)) : NoEsc r.data.toList := by
  rwa [List.take_of_length_le] at hn
  have : r.data.toList.length = r.size := Array.length_toList
  omega
theorem is92 {c : UInt8} (h : ((c.toNat : Int) != 92) = false) : c = 92 := by
  simp at h
  exact UInt8.toNat_inj.1 (by show c.toNat = 92; omega)

set_option maxRecDepth 100000 in
set_option maxHeartbeats 2000000 in
theorem readText_any (s : ByteArray) (w : World) (hs : s.size ≤ 4000) :
    Calls Tryz.prog 107 #[.string s] w fun e w' => TxtEnds s.data.toList e ∧ Below w.heap.size w w' := by
  obtain ⟨i0, hi, hz0, hz1, hz2⟩ := info_parts info8
  have hmx : 5000 ≤ maxLen := by decide
  have r0 := res_new w 35
  go_enter Tryz.func107, Tryz.ntmps107
  go_wp2
  go_step3
  go_wp2_with fail
  refine (Tryz.strings_CutSuffix s ⟨#[34]⟩ _ (by omega)).mono ?_
  rintro e w1 ⟨rfl, rfl⟩
  obtain ⟨b, hb⟩ : ∃ b, Lib.hasSuffix s.data.toList (⟨#[34]⟩ : ByteArray).data.toList = b := ⟨_, rfl⟩
  obtain ⟨m, hm⟩ : ∃ m, Lib.trimSuffix s.data.toList (⟨#[34]⟩ : ByteArray).data.toList = m := ⟨_, rfl⟩
  rw [hb, hm]
  have HB := Lib.hid hb
  have HM := Lib.hid hm
  clear hb hm
  cases b
  · have e0 := r0.c0
    have e1 := r0.c1
    have e2 := r0.c2
    have f0 := r0.f0
    have f1 := r0.f1
    have f2 := r0.f2
    have HR := Lib.hid r0
    clear r0
    go_wp2
    rw [Exit.noGoto_ret]
    refine bodyPost_ret (v := .tuple #[.agg #[.int .i64 0, .int .i64 0, .string ⟨#[]⟩], .bool false]) ?_ rfl ⟨txt_no (suf_no HB.out), ?_⟩
    · rw [results_cell_tmp rfl]; go_simp
    · have hR := HR.out
      exact hR.low
  · have HL0 : Hid (s.data.toList = m ++ [34]) := by
      show s.data.toList = m ++ [34]
      rw [← HM.out]; exact suf_yes HB.out
    have hms : m.length ≤ 4000 := by
      have := congrArg List.length HL0.out
      have h2 : s.data.toList.length = s.size := Array.length_toList
      rw [List.length_append, h2] at this
      omega
    clear HB HM
    go_wp2
    go_step3
    go_wp2
    go_loopg [0, 5] (m.length + 1) (fun g x v wr => ∃ (r : ByteArray) (pre : List UInt8), x = .string r ∧ r.size < g ∧ Left escL m pre r.data.toList ∧ pre.length + r.size ≤ 4000 ∧ Res w wr ∧ wr.ownsRow (w.heap.size + 1) 5 1 v pre.length (pre.map (fun c : UInt8 => Value.int .u8 c.toNat)))
    case atStart => exact ⟨⟨m.toArray⟩, [], rfl, by rw [size_mk]; omega, by simpa using left_new escL m, by rw [size_mk]; simpa using hms, r0, World.ownsRow_nil _ _ _ _⟩
    case round =>
      obtain ⟨r, pre, rfl, hrg, hL, hlen, hR, hrow⟩ := hrel
      have HL := Lib.hid hL
      clear hL r0
      cases gk with
      | zero => omega
      | succ g =>
        go_wp2
        go_loopg [0, 5, 19] r.size (fun g2 x0 x5 x wy => ∃ j : Nat, x0 = .string r ∧ u5 = x5 ∧ j + g2 = r.size ∧ x = .int .i64 j ∧ Hid (NoEsc (r.data.toList.take j)) ∧ wr = wy)
        case atStart => exact ⟨0, rfl, rfl, by omega, rfl, (by show NoEsc _; intro c hc; simp at hc), rfl⟩
        case round =>
          obtain ⟨j, rfl, rfl, hj, rfl, HN, rfl⟩ := hrel
          cases gk with
          | zero =>
            have hjz : ¬ ((j : Int) < (r.size : Int)) := by omega
            have HT : Hid (∀ t, flatL escL t = m → t = pre ++ r.data.toList) := left_plain HL.out (noEsc_all (by omega) HN.out)
            go_wp2_with (at_builtin; refine Lib.wpList_append_own_string _ rfl _ _ 61 9 rfl (w.heap.size + 1) 5 i0 Tryz.underlying61 Tryz.underlying9 hi hz0 hz1 hz2 _ _ _ rfl hrow r rfl (by omega) (by omega) (by have := hR.size; omega) ?_; intro v' w3 hown' hgrow _; rw [cells_app, len_app] at hown'; have hR3 := res_grown0 hR hrow hgrow; have hcv := own_string w3 _ _ _ hown'; have e0 := hR3.c0; have e1 := hR3.c1; have e2 := hR3.c2; have f0 := hR3.f0; have f1 := hR3.f1; have f2 := hR3.f2; have HR := Lib.hid hR3; clear hR3 hR hrow hgrow hown')
            refine bodyPost_ret (v := .tuple #[.agg #[.int .i64 3, .int .i64 0, .string ⟨(pre ++ r.data.toList).toArray⟩], .bool true]) ?_ rfl ⟨txt_of HL0.out (bytes_done HT.out (by rw [← len_app]; omega)), ?_⟩
            · rw [results_cell_tmp rfl]; go_simp
            · have hR := HR.out
              exact ((hR.low.setCell (p := ⟨w.heap.size, 0, none⟩) (Nat.le_refl _) _).setCell (p := ⟨w.heap.size, 1, none⟩) (Nat.le_refl _) _).setCell (p := ⟨w.heap.size, 2, none⟩) (Nat.le_refl _) _
          | succ g2 =>
            have hjz : (j : Int) < (r.size : Int) := by omega
            have hjn : j < r.size := by omega
            by_cases hc : ((r[j].toNat : Int) != 92) = true
            · have HN2 := Lib.hid (noEsc_step hjn HN.out hc)
              go_wp2
              go_roundg g2
              case measure => omega
              case rel => exact ⟨j + 1, rfl, rfl, by omega, by go_num, HN2, rfl⟩
            · have hc' : ((r[j].toNat : Int) != 92) = false := by simpa using hc
              clear hc
              have HC := Lib.hid (is92 hc')
              have hj1 : ((j : Int) + 1) ≤ (r.size : Int) := by omega
              have hd1 := drop_to r (j + 1)
              have hd1s := drop_to_size r (j + 1)
              have hLs : Hid (Left escL m pre (r.data.toList.take j ++ 92 :: (r.extract (j + 1) r.size).data.toList)) := by
                show Left escL m pre _
                rw [hd1, ← HC.out, ← split_at r j hjn]; exact HL.out
              have HD1 := Lib.hid hd1
              clear hd1
              go_wp2_with fail
              refine (readHex_any _ _ (by omega)).mono ?_
              rintro e w2 ⟨he2, hb2⟩
              unfold RhEnd at he2
              obtain ⟨c, ok, hc⟩ : ∃ c ok, rhL (r.extract (j + 1) r.size).data.toList = (c, ok) := ⟨_, _, rfl⟩
              rw [hc] at he2
              simp only at he2
              subst he2
              have hR2 : Res w w2 := hR.next hb2 hR.size
              have hrow2 := row_below hrow hb2
              clear hR hrow hb2
              cases ok
              · have hF : Hid (∀ t, flatL escL t ≠ m) := left_esc_no hLs.out HN.out (by rw [hc])
                have e0 := hR2.c0
                have e1 := hR2.c1
                have e2 := hR2.c2
                have f0 := hR2.f0
                have f1 := hR2.f1
                have f2 := hR2.f2
                have HR := Lib.hid hR2
                clear hc hR2
                go_wp2
                rw [Exit.noGoto_ret]
                refine bodyPost_ret (v := .tuple #[.agg #[.int .i64 0, .int .i64 0, .string ⟨#[]⟩], .bool false]) ?_ rfl ⟨txt_of HL0.out (bytes_no hF.out), ?_⟩
                · rw [results_cell_tmp rfl]; go_simp
                · have hR := HR.out
                  exact ((hR.low.setCell (p := ⟨w.heap.size, 0, none⟩) (Nat.le_refl _) _).setCell (p := ⟨w.heap.size, 1, none⟩) (Nat.le_refl _) _).setCell (p := ⟨w.heap.size, 2, none⟩) (Nat.le_refl _) _
              · have hL2 := left_esc hLs.out HN.out (by rw [hc])
                rw [hc] at hL2
                simp only at hL2
                have h2 : 2 ≤ (r.extract (j + 1) r.size).size := by have h9 := rhL_ok (l := (r.extract (j + 1) r.size).data.toList) (by rw [hc]); exact h9
                rw [HD1.out, List.drop_drop, ← drop_to] at hL2
                have HL2 := Lib.hid hL2
                clear hc hL2
                have hj2 : (j : Int) ≤ (r.size : Int) := by omega
                have hj3 : (j : Int) + 3 ≤ (r.size : Int) := by omega
                have hxs : (r.extract 0 j).data.toList = r.data.toList.take j := by simp
                have hxz : (r.extract 0 j).size = j := by rw [ByteArray.size_extract]; omega
                have HXS := Lib.hid hxs
                have HXZ := Lib.hid hxz
                clear hxs hxz
                go_wp2_with (first
                  | (at_builtin; refine Lib.wpList_append_own_string _ rfl _ _ 61 9 rfl (w.heap.size + 1) 5 i0 Tryz.underlying61 Tryz.underlying9 hi hz0 hz1 hz2 _ _ _ rfl hrow2 (r.extract 0 j) rfl (by rw [HXZ.out]; omega) (by rw [HXZ.out]; omega) (by have := hR2.size; omega) ?_; intro v' w3 hown' hgrow _; rw [cells_app, len_app] at hown'; have hR3 := res_grown0 hR2 hrow2 hgrow; clear hgrow; have hln : (pre ++ (r.extract 0 j).data.toList).length = pre.length + j := by rw [List.length_append, HXS.out, List.length_take]; (have : r.data.toList.length = r.size := Array.length_toList); omega)
                  | (at_builtin; refine wpList_append_own _ rfl _ _ 61 rfl (w.heap.size + 1) 5 i0 (.int .u8 0) 1 1 Tryz.underlying61 hi hz0 hz1 hz2 rfl (by decide) _ _ _ rfl (hown'.alloc _) ⟨w3.heap.size, 0, none⟩ 1 1 [.int .u8 c.toNat] rfl rfl (cell_one_new _ _ _) (by simp [Value.oneCell']) (by omega) (by omega) (by have := hR3.size; simp; omega) ?_; intro v'' w4 hown'' hgrow _; have hR4 := res_grown hR3 hown' hgrow))
                go_roundg g
                case measure => omega
                case rel => exact ⟨r.extract (j + 3) r.size, pre ++ (r.extract 0 j).data.toList ++ [c], rfl, by rw [drop_to_size]; omega, by rw [HXS.out]; exact HL2.out, by rw [drop_to_size, List.length_append, hln]; simp; omega, hR4, by simpa [Nat.add_assoc] using hown''⟩

end Go.Proofs.YthbighnkohjfnaaGreatDoor

/-
  CONTRACT of read: the value that a text would be of.
-/
namespace Go.Proofs.YthbighnkohjfnaaGreatDoor
open Go.RowKit Go.Shelf

theorem dec_dig : ∀ (u : Nat) (c : UInt8), c ∈ Lib.decDigits u → 48 ≤ c.toNat ∧ c.toNat ≤ 57 := by
  intro u
  induction u using Nat.strongRecOn with
  | _ u ih =>
    intro c hc
    rw [Lib.decDigits] at hc
    have hd : ∀ d : Nat, d < 10 → 48 ≤ (UInt8.ofNat (48 + d)).toNat ∧ (UInt8.ofNat (48 + d)).toNat ≤ 57 := by
      intro d hd
      have : (UInt8.ofNat (48 + d)).toNat = 48 + d := by
        rw [UInt8.toNat_ofNat']; omega
      omega
    split at hc
    · rename_i hlt
      rw [List.mem_singleton] at hc
      subst hc
      exact hd u hlt
    · rename_i hlt
      rcases List.mem_append.1 hc with hc | hc
      · exact ih (u / 10) (by omega) c hc
      · rw [List.mem_singleton] at hc
        subst hc
        exact hd (u % 10) (by omega)
theorem itoa_head {n : Int} {c : UInt8} {rest : List UInt8} (h : Lib.itoa n = c :: rest) : c.toNat = 45 ∨ (48 ≤ c.toNat ∧ c.toNat ≤ 57) := by
  unfold Lib.itoa at h
  split at h
  · injection h with h1 _
    subst h1
    exact .inl (by decide)
  · exact .inr (dec_dig _ c (by rw [h]; simp))

/-- which values a text's first byte lets be -/
structure Heads (c : UInt8) (rest : List UInt8) (k n : Int) (t : ByteArray) : Prop where
  t116 : c.toNat = 116 → k = 2 ∧ n = 1 ∧ t = ⟨#[]⟩
  f102 : c.toNat = 102 → k = 2 ∧ n = 0 ∧ t = ⟨#[]⟩
  r64 : c.toNat = 64 → k = 5 ∧ t = ⟨#[]⟩ ∧ rest = Lib.itoa n
  e33 : c.toNat = 33 → k = 6 ∧ t = ⟨#[]⟩ ∧ rest = Lib.itoa n
  w58 : c.toNat = 58 → k = 7 ∧ n = 0 ∧ rest = t.data.toList
  b35 : c.toNat = 35 → k = 4 ∧ n = 0 ∧ flatL hexL t.data.toList = rest
  q34 : c.toNat = 34 → k = 3 ∧ n = 0 ∧ flatL escL t.data.toList ++ [34] = rest
  i1 : c.toNat ≠ 116 → c.toNat ≠ 102 → c.toNat ≠ 64 → c.toNat ≠ 33 → c.toNat ≠ 58 → c.toNat ≠ 35 → c.toNat ≠ 34 → k = 1 ∧ t = ⟨#[]⟩ ∧ c :: rest = Lib.itoa n
theorem size_zero {t : ByteArray} (h : t.size = 0) : t = ⟨#[]⟩ := by
  have : t.data.toList = [] := by rw [← List.length_eq_zero_iff]; exact h
  cases t with
  | mk d => simp at this; simp [this]
theorem heads_of {k n : Int} {t : ByteArray} {c : UInt8} {rest : List UInt8} (hm : mayB k n t = true) (hl : txtL k n t = c :: rest) : Heads c rest k n t := by
  have hk : k = 1 ∨ k = 2 ∨ k = 3 ∨ k = 4 ∨ k = 5 ∨ k = 6 ∨ k = 7 := by
    unfold mayB at hm
    by_cases a1 : k = 1 ∨ k = 6
    · omega
    by_cases a2 : k = 2
    · omega
    by_cases a3 : k = 3 ∨ k = 4
    · omega
    by_cases a4 : k = 5
    · omega
    by_cases a5 : k = 7
    · omega
    simp [a1, a2, a3, a4, a5] at hm
  rcases hk with rfl | rfl | rfl | rfl | rfl | rfl | rfl
  · have h0 : t.size = 0 := by simpa [mayB] using hm
    have hl' : Lib.itoa n = c :: rest := hl
    have hh := itoa_head hl'
    constructor
    all_goals first | (intro h; omega) | (intros; exact ⟨rfl, size_zero h0, hl'.symm⟩)
  · have h0 : t.size = 0 ∧ (n = 0 ∨ n = 1) := by simpa [mayB] using hm
    obtain ⟨h0, rfl | rfl⟩ := h0
    · have hl' : [102, 97, 108, 115, 101] = c :: rest := hl
      injection hl' with h1 h2
      subst h1
      constructor
      all_goals first | (intro h; exact absurd h (by decide)) | (intros; exact ⟨rfl, rfl, size_zero h0⟩) | (intro _ h; exact absurd rfl h)
    · have hl' : [116, 114, 117, 101] = c :: rest := hl
      injection hl' with h1 h2
      subst h1
      constructor
      all_goals first | (intro h; exact absurd h (by decide)) | (intros; exact ⟨rfl, rfl, size_zero h0⟩) | (intro h; exact absurd rfl h)
  · have h0 : n = 0 ∧ t.size ≤ 1000 := by simpa [mayB] using hm
    have hl' : 34 :: (flatL escL t.data.toList ++ [34]) = c :: rest := hl
    injection hl' with h1 h2
    subst h1
    constructor
    all_goals first | (intro h; exact absurd h (by decide)) | (intros; exact ⟨rfl, h0.1, h2⟩) | (intro _ _ _ _ _ _ h; exact absurd rfl h)
  · have h0 : n = 0 ∧ t.size ≤ 1000 := by simpa [mayB] using hm
    have hl' : 35 :: (flatL hexL t.data.toList ++ []) = c :: rest := hl
    injection hl' with h1 h2
    rw [List.append_nil] at h2
    subst h1
    constructor
    all_goals first | (intro h; exact absurd h (by decide)) | (intros; exact ⟨rfl, h0.1, h2⟩) | (intro _ _ _ _ _ h; exact absurd rfl h)
  · have h0 : t.size = 0 := by
      have : t.size = 0 ∧ (0 ≤ n ∧ n < 9007199254740992) := by simpa [mayB] using hm
      exact this.1
    have hl' : 64 :: Lib.itoa n = c :: rest := hl
    injection hl' with h1 h2
    subst h1
    constructor
    all_goals first | (intro h; exact absurd h (by decide)) | (intros; exact ⟨rfl, size_zero h0, h2.symm⟩) | (intro _ _ h; exact absurd rfl h)
  · have h0 : t.size = 0 := by simpa [mayB] using hm
    have hl' : 33 :: Lib.itoa n = c :: rest := hl
    injection hl' with h1 h2
    subst h1
    constructor
    all_goals first | (intro h; exact absurd h (by decide)) | (intros; exact ⟨rfl, size_zero h0, h2.symm⟩) | (intro _ _ _ h; exact absurd rfl h)
  · have h0 : n = 0 ∧ wordB t = true := by simpa [mayB] using hm
    have hl' : 58 :: t.data.toList = c :: rest := hl
    injection hl' with h1 h2
    subst h1
    constructor
    all_goals first | (intro h; exact absurd h (by decide)) | (intros; exact ⟨rfl, h0.1, h2.symm⟩) | (intro _ _ _ _ h; exact absurd rfl h)

theorem txt_ne {k n : Int} {t : ByteArray} (hm : mayB k n t = true) : txtL k n t ≠ [] := by
  intro e
  have hc : ∀ c rest, txtL k n t = c :: rest → False := fun c rest h => by rw [e] at h; cases h
  have hk : k = 1 ∨ k = 2 ∨ k = 3 ∨ k = 4 ∨ k = 5 ∨ k = 6 ∨ k = 7 := by
    unfold mayB at hm
    by_cases a1 : k = 1 ∨ k = 6
    · omega
    by_cases a2 : k = 2
    · omega
    by_cases a3 : k = 3 ∨ k = 4
    · omega
    by_cases a4 : k = 5
    · omega
    by_cases a5 : k = 7
    · omega
    simp [a1, a2, a3, a4, a5] at hm
  rcases hk with rfl | rfl | rfl | rfl | rfl | rfl | rfl
  · have e' : Lib.itoa n = [] := e
    have hd : ∀ u, Lib.decDigits u ≠ [] := fun u h => by
      have := Lib.nDigits_pos u
      rw [← Lib.decDigits_length, h] at this
      simp at this
    unfold Lib.itoa at e'
    split at e'
    · cases e'
    · exact hd _ e'
  · have e' : boolL (n == 1) = [] := e
    cases h : (n == 1) <;> rw [h] at e' <;> cases e'
  · exact hc 34 (flatL escL t.data.toList ++ [34]) rfl
  · exact hc 35 (flatL hexL t.data.toList ++ []) rfl
  · exact hc 64 (Lib.itoa n) rfl
  · exact hc 33 (Lib.itoa n) rfl
  · exact hc 58 t.data.toList rfl

theorem reads_none : Reads [] (.returned (.tuple #[.agg #[.int .i64 0, .int .i64 0, .string ⟨#[]⟩], .bool false])) :=
  ⟨0, 0, _, false, rfl, (fun h => by cases h), fun _ _ _ hm _ hl => absurd hl (txt_ne hm)⟩
theorem reads_t {c : UInt8} {rest : List UInt8} (hc : c.toNat = 116) : Reads (c :: rest) (.returned (.tuple #[.agg #[.int .i64 2, .int .i64 1, .string ⟨#[]⟩], .bool true])) :=
  ⟨2, 1, _, true, rfl, fun _ => ⟨by unfold inI64; omega, Nat.zero_le _⟩, fun k n t hm _ hl => by
    obtain ⟨a, b, d⟩ := (heads_of hm hl).t116 hc
    exact ⟨a.symm, b.symm, d.symm, rfl⟩⟩
theorem reads_f {c : UInt8} {rest : List UInt8} (hc : c.toNat = 102) : Reads (c :: rest) (.returned (.tuple #[.agg #[.int .i64 2, .int .i64 0, .string ⟨#[]⟩], .bool true])) :=
  ⟨2, 0, _, true, rfl, fun _ => ⟨by unfold inI64; omega, Nat.zero_le _⟩, fun k n t hm _ hl => by
    obtain ⟨a, b, d⟩ := (heads_of hm hl).f102 hc
    exact ⟨a.symm, b.symm, d.symm, rfl⟩⟩
theorem reads_ref {c : UInt8} {rest : List UInt8} {n : Int} {ok : Bool} (hc : c.toNat = 64) (h1 : ok = true → inI64 n) (h2 : ∀ x, inI64 x → rest = Lib.itoa x → n = x ∧ ok = true) : Reads (c :: rest) (.returned (.tuple #[.agg #[.int .i64 5, .int .i64 n, .string ⟨#[]⟩], .bool ok])) :=
  ⟨5, n, _, ok, rfl, fun h => ⟨h1 h, Nat.zero_le _⟩, fun k n' t hm hx hl => by
    obtain ⟨a, b, d⟩ := (heads_of hm hl).r64 hc
    obtain ⟨e1, e2⟩ := h2 n' hx d
    exact ⟨a.symm, e1, b.symm, e2⟩⟩
theorem reads_time {c : UInt8} {rest : List UInt8} {n : Int} {ok : Bool} (hc : c.toNat = 33) (h1 : ok = true → inI64 n) (h2 : ∀ x, inI64 x → rest = Lib.itoa x → n = x ∧ ok = true) : Reads (c :: rest) (.returned (.tuple #[.agg #[.int .i64 6, .int .i64 n, .string ⟨#[]⟩], .bool ok])) :=
  ⟨6, n, _, ok, rfl, fun h => ⟨h1 h, Nat.zero_le _⟩, fun k n' t hm hx hl => by
    obtain ⟨a, b, d⟩ := (heads_of hm hl).e33 hc
    obtain ⟨e1, e2⟩ := h2 n' hx d
    exact ⟨a.symm, e1, b.symm, e2⟩⟩
theorem reads_word {c : UInt8} {rest : List UInt8} {t : ByteArray} (hc : c.toNat = 58) (hr : rest = t.data.toList) (hz : t.size ≤ maxLen) : Reads (c :: rest) (.returned (.tuple #[.agg #[.int .i64 7, .int .i64 0, .string t], .bool true])) :=
  ⟨7, 0, _, true, rfl, fun _ => ⟨by unfold inI64; omega, hz⟩, fun k n' t' hm hx hl => by
    obtain ⟨a, b, d⟩ := (heads_of hm hl).w58 hc
    rw [hr] at d
    exact ⟨a.symm, b.symm, ByteArray.ext (Array.toList_inj.1 d), rfl⟩⟩
theorem reads_bytes {c : UInt8} {rest : List UInt8} {k : Int} {t : ByteArray} {ok : Bool} (hc : c.toNat = 35) (h1 : ok = true → t.size ≤ maxLen) (h2 : ∀ u, flatL hexL u = rest → k = 4 ∧ t = ⟨u.toArray⟩ ∧ ok = true) : Reads (c :: rest) (.returned (.tuple #[.agg #[.int .i64 k, .int .i64 0, .string t], .bool ok])) :=
  ⟨k, 0, _, ok, rfl, fun h => ⟨by unfold inI64; omega, h1 h⟩, fun k' n' t' hm hx hl => by
    obtain ⟨a, b, d⟩ := (heads_of hm hl).b35 hc
    obtain ⟨e1, e2, e3⟩ := h2 _ d
    exact ⟨by rw [a, e1], b.symm, by rw [e2], e3⟩⟩
theorem reads_text {c : UInt8} {rest : List UInt8} {k : Int} {t : ByteArray} {ok : Bool} (hc : c.toNat = 34) (h1 : ok = true → t.size ≤ maxLen) (h2 : ∀ u, flatL escL u ++ [34] = rest → k = 3 ∧ t = ⟨u.toArray⟩ ∧ ok = true) : Reads (c :: rest) (.returned (.tuple #[.agg #[.int .i64 k, .int .i64 0, .string t], .bool ok])) :=
  ⟨k, 0, _, ok, rfl, fun h => ⟨by unfold inI64; omega, h1 h⟩, fun k' n' t' hm hx hl => by
    obtain ⟨a, b, d⟩ := (heads_of hm hl).q34 hc
    obtain ⟨e1, e2, e3⟩ := h2 _ d
    exact ⟨by rw [a, e1], b.symm, by rw [e2], e3⟩⟩
theorem reads_int {c : UInt8} {rest : List UInt8} {n : Int} {ok : Bool} (c1 : c.toNat ≠ 116) (c2 : c.toNat ≠ 102) (c3 : c.toNat ≠ 64) (c4 : c.toNat ≠ 33) (c5 : c.toNat ≠ 58) (c6 : c.toNat ≠ 35) (c7 : c.toNat ≠ 34)
    (h1 : ok = true → inI64 n) (h2 : ∀ x, inI64 x → c :: rest = Lib.itoa x → n = x ∧ ok = true) : Reads (c :: rest) (.returned (.tuple #[.agg #[.int .i64 1, .int .i64 n, .string ⟨#[]⟩], .bool ok])) :=
  ⟨1, n, _, ok, rfl, fun h => ⟨h1 h, Nat.zero_le _⟩, fun k n' t hm hx hl => by
    obtain ⟨a, b, d⟩ := (heads_of hm hl).i1 c1 c2 c3 c4 c5 c6 c7
    obtain ⟨e1, e2⟩ := h2 n' hx d
    exact ⟨a.symm, e1, b.symm, e2⟩⟩
theorem is_n {c : UInt8} {n : Int} (h : ((c.toNat : Int) == n) = true) : (c.toNat : Int) = n := by simpa using h
theorem is_not {c : UInt8} {n : Int} (h : ((c.toNat : Int) == n) = false) : (c.toNat : Int) ≠ n := by simpa using h

theorem bytes_there (x : ByteArray) (W : World) : ∃ v W1, (convert 9 61 (.string x)).run Tryz.prog W = .ok v W1 ∧ (convert 61 9 v).run Tryz.prog W1 = .ok (.string x) W1 ∧ Below W.heap.size W W1 := by
  refine ⟨_, _, Lib.run_convert_string_bytes W _ _ 5 x (u := .string) Tryz.underlying9 Tryz.underlying61 Tryz.underlying5, ?_, Lib.bytesWorld_below _ _ _⟩
  have h := run_convert_bytes_back (P := Tryz.prog) (Lib.bytesWorld W 5 x) 61 9 5 ⟨W.heap.size, 0, none⟩ (grownCap W x.size 0 5) x.data.toList Tryz.underlying61 Tryz.underlying5 Tryz.underlying9 (fun j hj => by
    have hj' : j < x.size := by simpa using hj
    have := Lib.bytesWorld_cell W 5 x j hj'
    have ha : (⟨W.heap.size, 0, none⟩ : Addr).add j = ⟨W.heap.size, j, none⟩ := by rw [Lib.add_plain, Nat.zero_add]
    rw [ha, this]
    simp [List.getD, hj'])
  have hl : x.data.toList.length = x.size := Array.length_toList
  rw [hl] at h
  exact h

theorem res_out {w W : World} {k n : Int} {t : ByteArray} (h : Res w W) : Below w.heap.size w (((W.setCell ⟨w.heap.size, 0, none⟩ (.int .i64 k)).setCell ⟨w.heap.size, 1, none⟩ (.int .i64 n)).setCell ⟨w.heap.size, 2, none⟩ (.string t)) :=
  ((h.low.setCell (p := ⟨w.heap.size, 0, none⟩) (Nat.le_refl _) _).setCell (p := ⟨w.heap.size, 1, none⟩) (Nat.le_refl _) _).setCell (p := ⟨w.heap.size, 2, none⟩) (Nat.le_refl _) _

set_option maxRecDepth 100000 in
set_option maxHeartbeats 4000000 in
theorem read_any (s : ByteArray) (w : World) (hs : s.size ≤ 4000) (herr : Errs w) :
    Calls Tryz.prog 90 #[.string s] w fun e w' => Reads s.data.toList e ∧ Below w.heap.size w w' := by
  have HE := Lib.hid herr
  have r0 := res_new w 35
  clear herr
  by_cases h0 : s.size = 0
  · have he := emp_yes h0
    have hl : Hid (s.data.toList = []) := by rw [← ByteArray.toList_eq]; exact he
    have e0 := r0.c0
    have e1 := r0.c1
    have e2 := r0.c2
    have f0 := r0.f0
    have f1 := r0.f1
    have f2 := r0.f2
    have HR := Lib.hid r0.low
    clear r0
    go_enter Tryz.func90, Tryz.ntmps90
    go_wp2
    refine bodyPost_ret (v := .tuple #[.agg #[.int .i64 0, .int .i64 0, .string ⟨#[]⟩], .bool false]) ?_ rfl ⟨by rw [hl.out]; exact reads_none, HR.out⟩
    rw [results_cell_tmp rfl]; go_simp
  · have hp : 0 < s.size := by omega
    have he := emp_no hp
    have hn := emp_ne hp
    have hp1 : (1 : Int) ≤ (s.size : Int) := by omega
    have HL : Hid (s.data.toList = s[0] :: (s.extract 1 s.size).data.toList) := by
      show s.data.toList = _
      rw [drop_to]; have := drop_at s 0 hp; simpa using this
    have HZ : Hid ((s.extract 1 s.size).size ≤ 4000) := by
      show _ ≤ _
      rw [drop_to_size]; omega
    obtain ⟨bv, W1, hcv, hcb, hB1⟩ := bytes_there (s.extract 1 s.size) (w.alloc (.cells #[.int .i64 0, .int .i64 0, .string ⟨#[]⟩] 35))
    have r1 : Res w W1 := r0.next hB1 (by simp)
    have e0 := r1.c0
    have e1 := r1.c1
    have e2 := r1.c2
    have f0 := r1.f0
    have f1 := r1.f1
    have f2 := r1.f2
    have R0 := Lib.hid r0
    have R1 := Lib.hid r1
    clear r0 r1 hB1
    go_enter Tryz.func90, Tryz.ntmps90
    go_wp2_with fail
    · refine bodyPost_ret (v := .tuple #[.agg #[.int .i64 2, .int .i64 1, .string ⟨#[]⟩], .bool true]) ?_ rfl ⟨?_, ?_⟩
      · rw [results_cell_tmp rfl]; go_simp
      · rw [HL.out]; exact reads_t (by have := is_n (n := 116) ‹_›; omega)
      · exact (Below.refl _ _).alloc (Nat.le_refl _) _
    · refine bodyPost_ret (v := .tuple #[.agg #[.int .i64 2, .int .i64 0, .string ⟨#[]⟩], .bool true]) ?_ rfl ⟨?_, ?_⟩
      · rw [results_cell_tmp rfl]; go_simp
      · rw [HL.out]; exact reads_f (by have := is_n (n := 102) ‹_›; omega)
      · exact (Below.refl _ _).alloc (Nat.le_refl _) _
    · refine (readNumber_any 5 _ _ HZ.out (errs_below HE.out R0.out.low)).mono ?_
      rintro e w2 ⟨⟨n, ok, rfl, hq1, hq2⟩, hb2⟩
      have HQ1 := Lib.hid hq1
      have HQ2 := Lib.hid hq2
      have hR2 : Res w w2 := R0.out.next hb2 (by simp)
      clear hq1 hq2 hb2 e0 e1 e2 f0 f1 f2 hcv hcb
      have e0 := hR2.c0
      have e1 := hR2.c1
      have e2 := hR2.c2
      have f0 := hR2.f0
      have f1 := hR2.f1
      have f2 := hR2.f2
      have R2 := Lib.hid hR2
      clear hR2
      go_wp2
      refine bodyPost_ret (v := .tuple #[.agg #[.int .i64 5, .int .i64 n, .string ⟨#[]⟩], .bool ok]) ?_ rfl ⟨?_, res_out R2.out⟩
      · rw [results_cell_tmp rfl]; go_simp
      · rw [HL.out]; exact reads_ref (by have := is_n (n := 64) ‹_›; omega) HQ1.out HQ2.out
    · refine (readNumber_any 6 _ _ HZ.out (errs_below HE.out R0.out.low)).mono ?_
      rintro e w2 ⟨⟨n, ok, rfl, hq1, hq2⟩, hb2⟩
      have HQ1 := Lib.hid hq1
      have HQ2 := Lib.hid hq2
      have hR2 : Res w w2 := R0.out.next hb2 (by simp)
      clear hq1 hq2 hb2 e0 e1 e2 f0 f1 f2 hcv hcb
      have e0 := hR2.c0
      have e1 := hR2.c1
      have e2 := hR2.c2
      have f0 := hR2.f0
      have f1 := hR2.f1
      have f2 := hR2.f2
      have R2 := Lib.hid hR2
      clear hR2
      go_wp2
      refine bodyPost_ret (v := .tuple #[.agg #[.int .i64 6, .int .i64 n, .string ⟨#[]⟩], .bool ok]) ?_ rfl ⟨?_, res_out R2.out⟩
      · rw [results_cell_tmp rfl]; go_simp
      · rw [HL.out]; exact reads_time (by have := is_n (n := 33) ‹_›; omega) HQ1.out HQ2.out
    · have hq58 := is_n (c := s[0]) (n := 58) ‹_›
      refine bodyPost_ret (v := .tuple #[.agg #[.int .i64 7, .int .i64 0, .string (s.extract 1 s.size)], .bool true]) ?_ rfl ⟨?_, res_out R1.out⟩
      · rw [results_cell_tmp rfl]; go_simp
      · rw [HL.out]; exact reads_word (by omega) rfl (by have := HZ.out; unfold maxLen; omega)
    · refine (readBytes_any _ _ HZ.out).mono ?_
      rintro e w2 ⟨⟨k, t, ok, rfl, hq1, hq2⟩, hb2⟩
      have HQ1 := Lib.hid hq1
      have HQ2 := Lib.hid hq2
      have hR2 : Res w w2 := R0.out.next hb2 (by simp)
      clear hq1 hq2 hb2 e0 e1 e2 f0 f1 f2 hcv hcb
      have e0 := hR2.c0
      have e1 := hR2.c1
      have e2 := hR2.c2
      have f0 := hR2.f0
      have f1 := hR2.f1
      have f2 := hR2.f2
      have R2 := Lib.hid hR2
      clear hR2
      go_wp2
      refine bodyPost_ret (v := .tuple #[.agg #[.int .i64 k, .int .i64 0, .string t], .bool ok]) ?_ rfl ⟨?_, res_out R2.out⟩
      · rw [results_cell_tmp rfl]; go_simp
      · rw [HL.out]; exact reads_bytes (by have := is_n (n := 35) ‹_›; omega) HQ1.out HQ2.out
    · refine (readText_any _ _ HZ.out).mono ?_
      rintro e w2 ⟨⟨k, t, ok, rfl, hq1, hq2⟩, hb2⟩
      have HQ1 := Lib.hid hq1
      have HQ2 := Lib.hid hq2
      have hR2 : Res w w2 := R0.out.next hb2 (by simp)
      clear hq1 hq2 hb2 e0 e1 e2 f0 f1 f2 hcv hcb
      have e0 := hR2.c0
      have e1 := hR2.c1
      have e2 := hR2.c2
      have f0 := hR2.f0
      have f1 := hR2.f1
      have f2 := hR2.f2
      have R2 := Lib.hid hR2
      clear hR2
      go_wp2
      refine bodyPost_ret (v := .tuple #[.agg #[.int .i64 k, .int .i64 0, .string t], .bool ok]) ?_ rfl ⟨?_, res_out R2.out⟩
      · rw [results_cell_tmp rfl]; go_simp
      · rw [HL.out]; exact reads_text (by have := is_n (n := 34) ‹_›; omega) HQ1.out HQ2.out
    · have n1 := is_not (c := s[0]) (n := 116) ‹_›
      have n2 := is_not (c := s[0]) (n := 102) ‹_›
      have n3 := is_not (c := s[0]) (n := 64) ‹_›
      have n4 := is_not (c := s[0]) (n := 33) ‹_›
      have n5 := is_not (c := s[0]) (n := 58) ‹_›
      have n6 := is_not (c := s[0]) (n := 35) ‹_›
      have n7 := is_not (c := s[0]) (n := 34) ‹_›
      have HN : Hid (s[0].toNat ≠ 116 ∧ s[0].toNat ≠ 102 ∧ s[0].toNat ≠ 64 ∧ s[0].toNat ≠ 33 ∧ s[0].toNat ≠ 58 ∧ s[0].toNat ≠ 35 ∧ s[0].toNat ≠ 34) := ⟨by omega, by omega, by omega, by omega, by omega, by omega, by omega⟩
      clear n1 n2 n3 n4 n5 n6 n7
      refine (readNumber_any 1 _ _ hs (errs_below HE.out R0.out.low)).mono ?_
      rintro e w2 ⟨⟨n, ok, rfl, hq1, hq2⟩, hb2⟩
      rw [HL.out] at hq2
      have HQ1 := Lib.hid hq1
      have HQ2 := Lib.hid hq2
      have hR2 : Res w w2 := R0.out.next hb2 (by simp)
      clear hq1 hq2 hb2 e0 e1 e2 f0 f1 f2 hcv hcb
      have e0 := hR2.c0
      have e1 := hR2.c1
      have e2 := hR2.c2
      have f0 := hR2.f0
      have f1 := hR2.f1
      have f2 := hR2.f2
      have R2 := Lib.hid hR2
      clear hR2
      go_wp2
      refine bodyPost_ret (v := .tuple #[.agg #[.int .i64 1, .int .i64 n, .string ⟨#[]⟩], .bool ok]) ?_ rfl ⟨?_, res_out R2.out⟩
      · rw [results_cell_tmp rfl]; go_simp
      · rw [HL.out]
        obtain ⟨c1, c2, c3, c4, c5, c6, c7⟩ := HN.out
        exact reads_int c1 c2 c3 c4 c5 c6 c7 HQ1.out HQ2.out

end Go.Proofs.YthbighnkohjfnaaGreatDoor

/-
  CONTRACT of spells: are the bytes that a value's text hands on these?
-/
namespace Go.Proofs.YthbighnkohjfnaaGreatDoor
open Go.RowKit Go.Shelf
attribute [local go_sem] Oper.semAt_some

theorem results_cell_only {fn : Func} {p : Tmp} {ty : TypeId} (h : fn.results = #[.cell p ty]) (tmps : Array Value) (P : Program) (w : World) :
    (results fn tmps).run P w = ((asAddr (tmps.getD p undef)).run P w).andThen fun a w₁ => (loadVar ty a).run P w₁ := by
  simp only [results, h]
  simp [Sem.run_bind]

theorem pre_snoc {pre l : List UInt8} {x : UInt8} (h : pre <+: l) : pre ++ [x] <+: l ↔ l[pre.length]? = some x := by
  obtain ⟨r, rfl⟩ := h
  rw [List.prefix_append_right_inj, List.getElem?_append_right (Nat.le_refl _), Nat.sub_self]
  cases r with
  | nil => simp
  | cons y r =>
    simp [List.cons_prefix_cons]
    exact eq_comm

theorem low2 (b : Nat) : b ≤ (⟨b + 1 + 1, 0, none⟩ : Addr).block := by show b ≤ b + 1 + 1; omega
theorem low3 (b : Nat) : b ≤ (⟨b + 1 + 1 + 1, 0, none⟩ : Addr).block := by show b ≤ b + 1 + 1 + 1; omega
theorem ne2 {b D : Nat} (h : b + 1 + 1 + 1 + 1 + 1 ≤ D) : D ≠ (⟨b + 1 + 1, 0, none⟩ : Addr).block := by show D ≠ b + 1 + 1; omega
theorem ne3 (b : Nat) : b + 1 + 1 + 1 + 1 ≠ (⟨b + 1 + 1 + 1, 0, none⟩ : Addr).block := by show b + 1 + 1 + 1 + 1 ≠ b + 1 + 1 + 1; omega
/-- What holds between two rounds. -/
def Mid (w : World) (k n : Int) (t s : ByteArray) (pre : List UInt8) (W : World) : Prop :=
  pre <+: s.data.toList ∧ Boxed W (w.heap.size + 1) 9 (.string s) ∧ Boxed W (w.heap.size + 1 + 1) 4 (.bool false) ∧ Boxed W (w.heap.size + 1 + 1 + 1) 3 (.int .i64 pre.length) ∧
    W.heap[w.heap.size + 1 + 1 + 1 + 1]? = some (.cells #[.int .i64 k, .int .i64 n, .string t] 35 (0, 0)) ∧ Below w.heap.size w W
/-- What holds where the loop is left. -/
def Out (w : World) (s : ByteArray) (c : Code) (pre : List UInt8) (W : World) : Prop :=
  c = .ret ∧ ¬ pre <+: s.data.toList ∧ Boxed W (w.heap.size + 1 + 1) 4 (.bool false) ∧ Below w.heap.size w W
theorem mid_own (w : World) (k n : Int) (t s : ByteArray) : OwnFrom (w.heap.size + 1 + 1 + 1 + 1 + 1) (Mid w k n t s) := fun pre A B row ⟨hp, h1, h2, h3, h4, h5⟩ hg hr => by
  have hne : ∀ b, b < w.heap.size + 1 + 1 + 1 + 1 + 1 → some b ≠ row := fun b hb e => by have := (hr b e.symm).1; omega
  have hlt : w.heap.size + 1 + 1 + 1 + 1 < A.heap.size := (Array.getElem?_eq_some_iff.1 h4).1
  exact ⟨hp, h1.kept hg (hne _ (by omega)), h2.kept hg (hne _ (by omega)), h3.kept hg (hne _ (by omega)), (hg.block _ hlt (hne _ (by omega))).trans h4, h5.grown hg h5.size (fun j ej => by have := (hr j ej).1; omega)⟩
theorem out_own (w : World) (s : ByteArray) (c : Code) : OwnFrom (w.heap.size + 1 + 1 + 1 + 1 + 1) (Out w s c) := fun pre A B row ⟨hc, hp, h2, h5⟩ hg hr => by
  have hne : ∀ b, b < w.heap.size + 1 + 1 + 1 + 1 + 1 → some b ≠ row := fun b hb e => by have := (hr b e.symm).1; omega
  exact ⟨hc, hp, h2.kept hg (hne _ (by omega)), h5.grown hg h5.size (fun j ej => by have := (hr j ej).1; omega)⟩

set_option maxRecDepth 100000 in
set_option maxHeartbeats 4000000 in
theorem spells_any (m : Nat) (hm3 : Hid (3 ≤ m)) (k n : Int) (t s : ByteArray) (w : World) (hs : s.size ≤ 4000) (h0 : -9223372036854775808 ≤ n) (h1 : n ≤ 9223372036854775807) (hm : mayB k n t = true) (htab : Tab w) :
    CallsIn Fence.wide m Tryz.prog 91 #[.agg #[.int .i64 k, .int .i64 n, .string t], .string s] w fun e w' => e = .returned (.bool (decide (txtL k n t = s.data.toList))) ∧ Below w.heap.size w w' := by
  have HM := Lib.hid hm
  have HT := Lib.hid htab
  clear hm htab
  refine callsIn_of_wp_marks Tryz.func91 rfl trivial ?_ rfl
  simp only [Tryz.ntmps91, List.size_toArray, List.length_cons, List.length_nil, Nat.reduceAdd, Nat.reduceSub, Array.replicate_succ, Array.replicate_zero, List.push_toArray, List.append_toArray, List.nil_append, List.cons_append]
  gi_wp2_with fail
  refine ⟨trivial, wide_deep _, ?_⟩
  refine (callsIn_wide.2 (toldOf_any _ _ _ _)).mono ?_
  rintro e w2 ⟨rfl, rfl⟩
  gi_wp2_with fail
  obtain ⟨W2, hW2⟩ : ∃ W2, (((((w.alloc (.cells #[.int .i64 k, .int .i64 n, .string t] 35)).alloc (.cells #[.string s] 9)).alloc (.cells #[.bool false] 4)).alloc (.cells #[.int .i64 0] 3)).alloc (.cells #[.int .i64 k, .int .i64 n, .string t] 35)) = W2 := ⟨_, rfl⟩
  have hz : W2.heap.size = w.heap.size + 1 + 1 + 1 + 1 + 1 := by rw [← hW2]; simp
  have hmid : Mid w k n t s [] W2 := by
    rw [← hW2]
    refine ⟨List.nil_prefix, ?_, ?_, ?_, ?_, ?_⟩
    · have := Boxed.new (w.alloc (.cells #[.int .i64 k, .int .i64 n, .string t] 35)) 9 (.string s)
      rw [World.size_alloc] at this
      exact ((this.alloc _).alloc _).alloc _
    · have := Boxed.new ((w.alloc (.cells #[.int .i64 k, .int .i64 n, .string t] 35)).alloc (.cells #[.string s] 9)) 4 (.bool false)
      rw [World.size_alloc, World.size_alloc] at this
      exact (this.alloc _).alloc _
    · have := Boxed.new (((w.alloc (.cells #[.int .i64 k, .int .i64 n, .string t] 35)).alloc (.cells #[.string s] 9)).alloc (.cells #[.bool false] 4)) 3 (.int .i64 0)
      rw [World.size_alloc, World.size_alloc, World.size_alloc] at this
      exact this.alloc _
    · have := World.alloc_heap_new ((((w.alloc (.cells #[.int .i64 k, .int .i64 n, .string t] 35)).alloc (.cells #[.string s] 9)).alloc (.cells #[.bool false] 4)).alloc (.cells #[.int .i64 0] 3)) (.cells #[.int .i64 k, .int .i64 n, .string t] 35)
      rw [World.size_alloc, World.size_alloc, World.size_alloc, World.size_alloc] at this
      exact this
    · exact (((((Below.refl _ _).alloc (Nat.le_refl _) _).alloc (by simp) _).alloc (by simp; omega) _).alloc (by simp; omega) _).alloc (by simp; omega) _
  rw [hW2]
  have hB2 : Below w.heap.size w W2 := hmid.2.2.2.2.2
  have hV := hmid.2.2.2.2.1
  have c0 : W2.cell? ⟨w.heap.size + 1 + 1 + 1 + 1, 0, none⟩ = some (.int .i64 k) := by simp [World.cell?, hV]
  have c1 : W2.cell? ⟨w.heap.size + 1 + 1 + 1 + 1, 1, none⟩ = some (.int .i64 n) := by simp [World.cell?, hV]
  have c2 : W2.cell? ⟨w.heap.size + 1 + 1 + 1 + 1, 2, none⟩ = some (.string t) := by simp [World.cell?, hV]
  have htb : ∀ W', Below w.heap.size W2 W' → Tab W' := fun W' hb => tab_below HT.out (hB2.trans hb)
  have hro : Fence.wide.round = none := rfl
  have hm := HM.out
  clear hW2 hB2 hV
  have hsz : s.data.toList.length = s.size := Array.length_toList
  have HSZ := Lib.hid hsz
  clear hsz
  refine wpIn_rangeFunc_ownG hro (by have := hm3.out; omega) (gf := 80) (lb := #[.pointer (some ⟨w.heap.size + 1 + 1 + 1 + 1, 0, none⟩)]) rfl trivial (enters_of Tryz.func80 (by kernel_rfl) rfl)
    (told_stops (m - 1) w.heap.size (w.heap.size + 1 + 1 + 1 + 1) k n t h0 h1 hm W2 (by omega) htb (by omega) c0 c1 c2) Keeps.trans (keeps_b (by omega) (by omega)) (Below.refl _ _) (fun _ => rfl)
    (Mid w k n t s) (Out w s) (by rw [hz]; exact mid_own w k n t s) (fun c => by rw [hz]; exact out_own w s c)
    hmid
    (fun c => { tmps := #[.agg #[.int .i64 k, .int .i64 n, .string t], .string s, .pointer (some ⟨w.heap.size, 0, none⟩), .pointer (some ⟨w.heap.size + 1, 0, none⟩), .pointer (some ⟨w.heap.size + 1 + 1, 0, none⟩), .pointer (some ⟨w.heap.size + 1 + 1 + 1, 0, none⟩), .int .u8 c.toNat, .agg #[.int .i64 k, .int .i64 n, .string t], .func (.func 80) #[] #[.pointer (some ⟨w.heap.size + 1 + 1 + 1 + 1, 0, none⟩)], .int .u8 c.toNat, undef, undef, undef, undef, undef, undef, undef, undef, undef, undef, undef, undef, undef, undef, undef, undef, undef], defers := [] }) ?assign ?body ?done ?stop
  case assign =>
    intro l x W K hK
    gi_wp2
    exact hK
  case body =>
    rintro l pre x W ⟨hp, hS, hR, hA, hV, hB⟩ hlt
    have s0 := hS.cell
    have a0 := hA.cell
    have a1 := hA.frozen
    have r0 := hR.cell
    have r1 := hR.frozen
    have HP := Lib.hid hp
    have HB := Lib.hid hB
    have HV := Lib.hid hV
    have HLT := Lib.hid hlt
    have hle : pre.length ≤ s.size := by have := hp.length_le; rw [HSZ.out] at this; exact this
    clear hp hB hV hlt
    have hst : ∀ b, b < w.heap.size + 1 + 1 + 1 + 1 + 1 → ∀ u, KeepsFrom W2.heap.size W (W.setCell ⟨b, 0, none⟩ u) := fun b hb u => KeepsFrom.of_grownBy (grownBy_setCell' W b u) (fun j ej => by cases ej; omega)
    have HST := Lib.hid hst
    clear hst
    by_cases hx : pre.length = s.size
    · have HO : Hid (¬ pre ++ [x] <+: s.data.toList) := fun h => by
        have := h.length_le
        rw [HSZ.out, List.length_append] at this
        simp at this
        omega
      gi_wp2
      exact ⟨HST.out _ (by omega) _, rfl, HO.out, hR.set _, HB.out.setCell (p := ⟨w.heap.size + 1 + 1, 0, none⟩) (low2 _) _⟩
    · have hlt : pre.length < s.size := by omega
      have hlti : (pre.length : Int) < (s.size : Int) := by omega
      have hne : ¬ ((pre.length : Int) = (s.size : Int)) := by omega
      have hg : s.data.toList[pre.length]? = some s[pre.length] := by
        rw [List.getElem?_eq_getElem (by rw [HSZ.out]; exact hlt)]; rfl
      have HG := Lib.hid hg
      clear hg hx
      by_cases hc : s[pre.length] = x
      · have HC := Lib.hid hc
        have HO : Hid (pre ++ [x] <+: s.data.toList) := by
          show _ <+: _
          rw [pre_snoc HP.out, HG.out, HC.out]
        have hcc : ((s[pre.length].toNat : Int) != (x.toNat : Int)) = false := by rw [hc]; simp
        clear hc
        gi_wp2
        have hV2 : (W.setCell ⟨w.heap.size + 1 + 1 + 1, 0, none⟩ (.int .i64 ((pre.length : Int) + 1))).heap[w.heap.size + 1 + 1 + 1 + 1]? = W.heap[w.heap.size + 1 + 1 + 1 + 1]? := Below.heap_setCell _ _ _ _ (ne3 _)
        refine ⟨HST.out _ (by omega) _, ⟨(Below.refl _ _).setCell (p := ⟨w.heap.size + 1 + 1 + 1, 0, none⟩) (low3 _) _, hV2⟩, HO.out, hS.other (by omega) _, hR.other (by omega) _, ?_, hV2.trans HV.out, HB.out.setCell (p := ⟨w.heap.size + 1 + 1 + 1, 0, none⟩) (low3 _) _⟩
        have := hA.set (.int .i64 ((pre.length : Int) + 1))
        rw [List.length_append]
        simpa using this
      · have HO : Hid (¬ pre ++ [x] <+: s.data.toList) := fun h => by
          rw [pre_snoc HP.out, HG.out] at h
          exact hc (by injection h)
        have hcc : ((s[pre.length].toNat : Int) != (x.toNat : Int)) = true := by
          have : s[pre.length].toNat ≠ x.toNat := fun e => hc (UInt8.toNat_inj.1 e)
          simp; omega
        clear hc
        gi_wp2
        exact ⟨HST.out _ (by omega) _, rfl, HO.out, hR.set _, HB.out.setCell (p := ⟨w.heap.size + 1 + 1, 0, none⟩) (low2 _) _⟩
  case done =>
    rintro D ys W hD rfl ⟨hp, hS, hR, hA, hV, hB⟩ hK
    have s0 := hS.cell
    have a0 := hA.cell
    have r0 := hR.cell
    have r1 := hR.frozen
    have HP := Lib.hid hp
    have HB := Lib.hid hB
    have hle : (txtL k n t).length ≤ s.size := by have := hp.length_le; rw [HSZ.out] at this; exact this
    clear hp hB hV
    by_cases hx : (txtL k n t).length = s.size
    · have HE : Hid (decide (txtL k n t = s.data.toList) = true) := by
        show _ = _
        rw [decide_eq_true_eq]
        exact HP.out.eq_of_length (by rw [HSZ.out, hx])
      gi_wp2
      refine ⟨by simp, .inl ⟨_, _, rfl, run_takeDeferred ((Below.heap_setCell _ _ _ _ (ne2 (by omega))).trans hK), ?_⟩⟩
      have hR2 := ((hR.set (.bool true)).kept (grownBy_putObj' _ D (.deferred none)) (by intro e; injection e with e; omega)).cell
      refine ⟨.bool true, (by rw [results_cell_only rfl]; go_simp), by rw [HE.out], (HB.out.setCell (p := ⟨w.heap.size + 1 + 1, 0, none⟩) (low2 _) _).trans (belowK_b (w := W2) (n₀ := w.heap.size) (by omega) _ D _ _ (by omega) ((Below.heap_setCell _ _ _ _ (ne2 (by omega))).trans hK) rfl rfl)⟩
    · have HE : Hid (decide (txtL k n t = s.data.toList) = false) := by
        show _ = _
        rw [decide_eq_false_iff_not]
        intro e
        exact hx (by rw [← HSZ.out, ← e])
      have hne : (((txtL k n t).length : Int) == (s.size : Int)) = false := by simp; omega
      gi_wp2
      refine ⟨by simp, .inl ⟨_, _, rfl, run_takeDeferred ((Below.heap_setCell _ _ _ _ (ne2 (by omega))).trans hK), ?_⟩⟩
      have hR2 := ((hR.set (.bool false)).kept (grownBy_putObj' _ D (.deferred none)) (by intro e; injection e with e; omega)).cell
      refine ⟨.bool false, (by rw [results_cell_only rfl]; go_simp), by rw [HE.out], (HB.out.setCell (p := ⟨w.heap.size + 1 + 1, 0, none⟩) (low2 _) _).trans (belowK_b (w := W2) (n₀ := w.heap.size) (by omega) _ D _ _ (by omega) ((Below.heap_setCell _ _ _ _ (ne2 (by omega))).trans hK) rfl rfl)⟩
  case stop =>
    rintro D c pre W hD hsp ⟨rfl, hnp, hR, hB⟩ hK
    have r0 := hR.cell
    have r1 := hR.frozen
    have HE : Hid (decide (txtL k n t = s.data.toList) = false) := by
      show _ = _
      rw [decide_eq_false_iff_not]
      intro e
      rw [e] at hsp
      exact hnp hsp
    gi_wp2
    refine ⟨by simp, .inl ⟨_, _, rfl, run_takeDeferred hK, ?_⟩⟩
    have hR2 := (hR.kept (grownBy_putObj' W D (.deferred none)) (by intro e; injection e with e; omega)).cell
    refine ⟨.bool false, (by rw [results_cell_only rfl]; go_simp), by rw [HE.out], hB.trans ((belowK_b (w := W2) (n₀ := w.heap.size) (by omega) W D _ _ (by omega) hK rfl rfl))⟩

end Go.Proofs.YthbighnkohjfnaaGreatDoor
