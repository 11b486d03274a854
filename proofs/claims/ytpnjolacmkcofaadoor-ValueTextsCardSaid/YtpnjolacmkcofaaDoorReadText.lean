/-
  CONTRACTS of what reads a text: readText.
-/
import Derived.Test.YtpnjolacmkcofaaDoorReadBytes
import Derived.Deep.LoopGhost
import Derived.Lib.AppendStr
import Derived.WalkMore
namespace Go.Proofs.YtpnjolacmkcofaaDoor
open Go.RowKit Go.Shelf

/-- no byte of p is an escape's -/
def NoEsc (p : List UInt8) : Prop := ∀ c ∈ p, c ≠ 92
theorem plain_ne {c : UInt8} (h : plainB c.toNat = true) : c ≠ 92 := by
  intro e; subst e; simp [plainB] at h
theorem esc_found : ∀ (p t rest : List UInt8), NoEsc p → flatL escL t = p ++ 92 :: rest → ∃ d t', t = p ++ d :: t' ∧ rest = hexL d ++ flatL escL t'
  | [], t, rest, _, h => by
    cases t with
    | nil => simp [flatL] at h
    | cons d t' =>
      have h2 : escL d ++ flatL escL t' = 92 :: rest := h
      by_cases hp : plainB d.toNat = true
      · rw [escL_plain hp] at h2
        injection h2 with h3 _
        exact absurd h3 (plain_ne hp)
      · rw [escL_not (by simpa using hp)] at h2
        injection h2 with _ h4
        exact ⟨d, t', rfl, h4.symm⟩
  | c :: p, t, rest, hn, h => by
    cases t with
    | nil => simp [flatL] at h
    | cons d t' =>
      have h2 : escL d ++ flatL escL t' = c :: (p ++ 92 :: rest) := h
      have hc : c ≠ 92 := hn c (by simp)
      by_cases hp : plainB d.toNat = true
      · rw [escL_plain hp] at h2
        injection h2 with h3 h4
        obtain ⟨e, t'', h5, h6⟩ := esc_found p t' rest (fun x hx => hn x (by simp [hx])) h4
        exact ⟨e, t'', by rw [h3, h5]; rfl, h6⟩
      · rw [escL_not (by simpa using hp)] at h2
        injection h2 with h3 _
        exact absurd h3.symm hc
theorem esc_none : ∀ (t r : List UInt8), NoEsc r → flatL escL t = r → t = r
  | [], r, _, h => h
  | d :: t, r, hn, h => by
    have h2 : escL d ++ flatL escL t = r := h
    by_cases hp : plainB d.toNat = true
    · rw [escL_plain hp] at h2
      rw [← h2] at hn ⊢
      have h3 := esc_none t (flatL escL t) (fun x hx => hn x (by simp [hx])) rfl
      rw [← h3]; rfl
    · rw [escL_not (by simpa using hp)] at h2
      rw [← h2] at hn
      exact absurd rfl (hn 92 (by simp))

/-- What readText answers. -/
def TxtEnds (l : List UInt8) (e : Ending) : Prop :=
  ∃ (k' : Int) (t : ByteArray) (ok : Bool), e = .returned (.tuple #[.agg #[.int .i64 k', .int .i64 0, .string t], .bool ok]) ∧ (ok = true → t.size ≤ maxLen) ∧ (∀ u, flatL escL u ++ [34] = l → k' = 3 ∧ t = ⟨u.toArray⟩ ∧ ok = true)
theorem txt_no {l : List UInt8} (h : ∀ t, flatL escL t ++ [34] ≠ l) : TxtEnds l (.returned (.tuple #[.agg #[.int .i64 0, .int .i64 0, .string ⟨#[]⟩], .bool false])) :=
  ⟨0, _, false, rfl, (fun h => by cases h), fun u hu => absurd hu (h u)⟩
theorem txt_of {l m : List UInt8} (hl : l = m ++ [34]) {e : Ending} (h : BytesEnds 3 escL m e) : TxtEnds l e := by
  obtain ⟨k, t, ok, h1, h2, h3⟩ := h
  refine ⟨k, t, ok, h1, h2, fun u hu => ?_⟩
  rw [hl] at hu
  exact h3 u (List.append_cancel_right hu)

/-- behind an escape -/
theorem left_esc {l pre p rest : List UInt8} (h : Left escL l pre (p ++ 92 :: rest)) (hn : NoEsc p) : (rhL rest).2 = true → Left escL l (pre ++ p ++ [(rhL rest).1]) (rest.drop 2) := fun _ t ht => by
  obtain ⟨t', h1, h2⟩ := h t ht
  obtain ⟨d, t'', h3, h4⟩ := esc_found p t' rest hn h2
  rw [h4, rhL_hexL]
  exact ⟨t'', by rw [h1, h3]; simp, by simp [hexL]⟩
theorem left_esc_no {l pre p rest : List UInt8} (h : Left escL l pre (p ++ 92 :: rest)) (hn : NoEsc p) (ho : (rhL rest).2 = false) (t : List UInt8) : flatL escL t ≠ l := fun ht => by
  obtain ⟨t', h1, h2⟩ := h t ht
  obtain ⟨d, t'', h3, h4⟩ := esc_found p t' rest hn h2
  rw [h4, rhL_hexL] at ho
  cases ho
theorem left_plain {l pre r : List UInt8} (h : Left escL l pre r) (hn : NoEsc r) (t : List UInt8) (ht : flatL escL t = l) : t = pre ++ r := by
  obtain ⟨t', h1, h2⟩ := h t ht
  rw [h1, esc_none t' r hn h2]

theorem split_at (r : ByteArray) (j : Nat) (h : j < r.size) : r.data.toList = r.data.toList.take j ++ r[j] :: r.data.toList.drop (j + 1) := by
  rw [← drop_at r j h, List.take_append_drop]

theorem drop_to (r : ByteArray) (k : Nat) : (r.extract k r.size).data.toList = r.data.toList.drop k := by
  exact Lib.extract_to_end r k
theorem drop_to_size (r : ByteArray) (k : Nat) : (r.extract k r.size).size = r.size - k := by
  have h1 := congrArg List.length (drop_to r k)
  rw [List.length_drop] at h1
  exact h1
theorem res_grown0 {w W w1 : World} {e : TypeId} {size k : Nat} {v : Value} {xs : List Value} (h : Res w W) (hr : W.ownsRow (w.heap.size + 1) e size v k xs) (hg : W.grownBy w1 v.ownBlock) : Res w w1 := by
  refine h.next (B := w.heap.size + 1) ((Below.refl _ W).grown hg (by have := h.size; omega) (fun j ej => ?_)) (by omega)
  rcases hr.2 with ⟨rfl, _⟩ | ⟨g, cap, cur, rfl, hb, _, _⟩
  · simp [Value.ownBlock] at ej
  · obtain rfl : g = j := by simpa [Value.ownBlock] using ej
    exact hb
theorem cells_app (pre : List UInt8) (r : ByteArray) : pre.map (fun c : UInt8 => Value.int .u8 c.toNat) ++ Lib.strCells r = (pre ++ r.data.toList).map (fun c : UInt8 => Value.int .u8 c.toNat) := by
  rw [List.map_append]; rfl
theorem len_app (pre : List UInt8) (r : ByteArray) : pre.length + r.size = (pre ++ r.data.toList).length := by
  rw [List.length_append]
  have : r.data.toList.length = r.size := Array.length_toList
  omega
theorem suf_yes {l : List UInt8} (h : Lib.hasSuffix l [34] = true) : l = Lib.trimSuffix l [34] ++ [34] := by
  have h1 : [34] <:+ l := List.isSuffixOf_iff_suffix.1 h
  obtain ⟨t, ht⟩ := h1
  unfold Lib.trimSuffix
  rw [if_pos h, ← ht]
  simp
theorem suf_no {l : List UInt8} (h : Lib.hasSuffix l [34] = false) (t : List UInt8) : flatL escL t ++ [34] ≠ l := by
  intro e
  have h1 : Lib.hasSuffix l [34] = true := List.isSuffixOf_iff_suffix.2 ⟨_, e⟩
  rw [h1] at h; cases h
theorem noEsc_step {r : ByteArray} {j : Nat} (h : j < r.size) (hn : NoEsc (r.data.toList.take j)) (hc : ((r[j].toNat : Int) != 92) = true) : NoEsc (r.data.toList.take (j + 1)) := by
  intro c hm
  rw [List.take_add_one] at hm
  rcases List.mem_append.1 hm with hm | hm
  · exact hn c hm
  · have hg : r.data.toList[j]? = some r[j] := by
      have := split_at r j h
      rw [this, List.getElem?_append_right (by simp; omega)]
      have hl : (List.take j r.data.toList).length = j := by
        rw [List.length_take]
        have : r.data.toList.length = r.size := Array.length_toList
        omega
      simp [hl]
    rw [hg] at hm
    simp at hm
    subst hm
    intro e
    rw [e] at hc
    simp at hc
theorem noEsc_all {r : ByteArray} {j : Nat} (h : ¬ j < r.size) (hn : NoEsc (r.data.toList.take j)) : NoEsc r.data.toList := by
  rwa [List.take_of_length_le] at hn
  have : r.data.toList.length = r.size := Array.length_toList
  omega
theorem is92 {c : UInt8} (h : ((c.toNat : Int) != 92) = false) : c = 92 := by
  simp at h
  exact UInt8.toNat_inj.1 (by show c.toNat = 92; omega)

set_option maxRecDepth 100000 in
set_option maxHeartbeats 2000000 in
theorem readText_any (s : ByteArray) (w : World) (hs : s.size ≤ 4000) :
    Calls Tryd.prog 40 #[.string s] w fun e w' => TxtEnds s.data.toList e ∧ Below w.heap.size w w' := by
  obtain ⟨i0, hi, hz0, hz1, hz2⟩ := info_parts info8
  have hmx : 5000 ≤ maxLen := by decide
  have r0 := res_new w 23
  go_enter Tryd.func40, Tryd.ntmps40
  go_wp2
  go_step3
  go_wp2_with fail
  refine (Tryd.strings_CutSuffix s ⟨#[34]⟩ _ (by omega)).mono ?_
  rintro e w1 ⟨rfl, rfl⟩
  obtain ⟨b, hb⟩ : ∃ b, Lib.hasSuffix s.data.toList (⟨#[34]⟩ : ByteArray).data.toList = b := ⟨_, rfl⟩
  obtain ⟨m, hm⟩ : ∃ m, Lib.trimSuffix s.data.toList (⟨#[34]⟩ : ByteArray).data.toList = m := ⟨_, rfl⟩
  rw [hb, hm]
  have HB := Lib.hid hb
  have HM := Lib.hid hm
  clear hb hm
  cases b
  · have e0 := r0.c0
    have e1 := r0.c1
    have e2 := r0.c2
    have f0 := r0.f0
    have f1 := r0.f1
    have f2 := r0.f2
    have HR := Lib.hid r0
    clear r0
    go_wp2
    rw [Exit.noGoto_ret]
    refine bodyPost_ret (v := .tuple #[.agg #[.int .i64 0, .int .i64 0, .string ⟨#[]⟩], .bool false]) ?_ rfl ⟨txt_no (suf_no HB.out), ?_⟩
    · rw [results_cell_tmp rfl]; go_simp
    · have hR := HR.out
      exact hR.low
  · have HL0 : Hid (s.data.toList = m ++ [34]) := by
      show s.data.toList = m ++ [34]
      rw [← HM.out]; exact suf_yes HB.out
    have hms : m.length ≤ 4000 := by
      have := congrArg List.length HL0.out
      have h2 : s.data.toList.length = s.size := Array.length_toList
      rw [List.length_append, h2] at this
      omega
    clear HB HM
    go_wp2
    go_step3
    go_wp2
    go_loopg [0, 5] (m.length + 1) (fun g x v wr => ∃ (r : ByteArray) (pre : List UInt8), x = .string r ∧ r.size < g ∧ Left escL m pre r.data.toList ∧ pre.length + r.size ≤ 4000 ∧ Res w wr ∧ wr.ownsRow (w.heap.size + 1) 5 1 v pre.length (pre.map (fun c : UInt8 => Value.int .u8 c.toNat)))
    case atStart => exact ⟨⟨m.toArray⟩, [], rfl, by rw [size_mk]; omega, by simpa using left_new escL m, by rw [size_mk]; simpa using hms, r0, World.ownsRow_nil _ _ _ _⟩
    case round =>
      obtain ⟨r, pre, rfl, hrg, hL, hlen, hR, hrow⟩ := hrel
      have HL := Lib.hid hL
      clear hL r0
      cases gk with
      | zero => omega
      | succ g =>
        go_wp2
        go_loopg [0, 5, 19] r.size (fun g2 x0 x5 x wy => ∃ j : Nat, x0 = .string r ∧ u5 = x5 ∧ j + g2 = r.size ∧ x = .int .i64 j ∧ Hid (NoEsc (r.data.toList.take j)) ∧ wr = wy)
        case atStart => exact ⟨0, rfl, rfl, by omega, rfl, (by show NoEsc _; intro c hc; simp at hc), rfl⟩
        case round =>
          obtain ⟨j, rfl, rfl, hj, rfl, HN, rfl⟩ := hrel
          cases gk with
          | zero =>
            have hjz : ¬ ((j : Int) < (r.size : Int)) := by omega
            have HT : Hid (∀ t, flatL escL t = m → t = pre ++ r.data.toList) := left_plain HL.out (noEsc_all (by omega) HN.out)
            go_wp2_with (at_builtin; refine Lib.wpList_append_own_string _ rfl _ _ 40 9 rfl (w.heap.size + 1) 5 i0 Tryd.underlying40 Tryd.underlying9 hi hz0 hz1 hz2 _ _ _ rfl hrow r rfl (by omega) (by omega) (by have := hR.size; omega) ?_; intro v' w3 hown' hgrow _; rw [cells_app, len_app] at hown'; have hR3 := res_grown0 hR hrow hgrow; have hcv := own_string w3 _ _ _ hown'; have e0 := hR3.c0; have e1 := hR3.c1; have e2 := hR3.c2; have f0 := hR3.f0; have f1 := hR3.f1; have f2 := hR3.f2; have HR := Lib.hid hR3; clear hR3 hR hrow hgrow hown')
            refine bodyPost_ret (v := .tuple #[.agg #[.int .i64 3, .int .i64 0, .string ⟨(pre ++ r.data.toList).toArray⟩], .bool true]) ?_ rfl ⟨txt_of HL0.out (bytes_done HT.out (by rw [← len_app]; omega)), ?_⟩
            · rw [results_cell_tmp rfl]; go_simp
            · have hR := HR.out
              exact ((hR.low.setCell (p := ⟨w.heap.size, 0, none⟩) (Nat.le_refl _) _).setCell (p := ⟨w.heap.size, 1, none⟩) (Nat.le_refl _) _).setCell (p := ⟨w.heap.size, 2, none⟩) (Nat.le_refl _) _
          | succ g2 =>
            have hjz : (j : Int) < (r.size : Int) := by omega
            have hjn : j < r.size := by omega
            by_cases hc : ((r[j].toNat : Int) != 92) = true
            · have HN2 := Lib.hid (noEsc_step hjn HN.out hc)
              go_wp2
              go_roundg g2
              case measure => omega
              case rel => exact ⟨j + 1, rfl, rfl, by omega, by go_num, HN2, rfl⟩
            · have hc' : ((r[j].toNat : Int) != 92) = false := by simpa using hc
              clear hc
              have HC := Lib.hid (is92 hc')
              have hj1 : ((j : Int) + 1) ≤ (r.size : Int) := by omega
              have hd1 := drop_to r (j + 1)
              have hd1s := drop_to_size r (j + 1)
              have hLs : Hid (Left escL m pre (r.data.toList.take j ++ 92 :: (r.extract (j + 1) r.size).data.toList)) := by
                show Left escL m pre _
                rw [hd1, ← HC.out, ← split_at r j hjn]; exact HL.out
              have HD1 := Lib.hid hd1
              clear hd1
              go_wp2_with fail
              refine (readHex_any _ _ (by omega)).mono ?_
              rintro e w2 ⟨he2, hb2⟩
              unfold RhEnd at he2
              obtain ⟨c, ok, hc⟩ : ∃ c ok, rhL (r.extract (j + 1) r.size).data.toList = (c, ok) := ⟨_, _, rfl⟩
              rw [hc] at he2
              simp only at he2
              subst he2
              have hR2 : Res w w2 := hR.next hb2 hR.size
              have hrow2 := row_below hrow hb2
              clear hR hrow hb2
              cases ok
              · have hF : Hid (∀ t, flatL escL t ≠ m) := left_esc_no hLs.out HN.out (by rw [hc])
                have e0 := hR2.c0
                have e1 := hR2.c1
                have e2 := hR2.c2
                have f0 := hR2.f0
                have f1 := hR2.f1
                have f2 := hR2.f2
                have HR := Lib.hid hR2
                clear hc hR2
                go_wp2
                rw [Exit.noGoto_ret]
                refine bodyPost_ret (v := .tuple #[.agg #[.int .i64 0, .int .i64 0, .string ⟨#[]⟩], .bool false]) ?_ rfl ⟨txt_of HL0.out (bytes_no hF.out), ?_⟩
                · rw [results_cell_tmp rfl]; go_simp
                · have hR := HR.out
                  exact ((hR.low.setCell (p := ⟨w.heap.size, 0, none⟩) (Nat.le_refl _) _).setCell (p := ⟨w.heap.size, 1, none⟩) (Nat.le_refl _) _).setCell (p := ⟨w.heap.size, 2, none⟩) (Nat.le_refl _) _
              · have hL2 := left_esc hLs.out HN.out (by rw [hc])
                rw [hc] at hL2
                simp only at hL2
                have h2 : 2 ≤ (r.extract (j + 1) r.size).size := by have h9 := rhL_ok (l := (r.extract (j + 1) r.size).data.toList) (by rw [hc]); exact h9
                rw [HD1.out, List.drop_drop, ← drop_to] at hL2
                have HL2 := Lib.hid hL2
                clear hc hL2
                have hj2 : (j : Int) ≤ (r.size : Int) := by omega
                have hj3 : (j : Int) + 3 ≤ (r.size : Int) := by omega
                have hxs : (r.extract 0 j).data.toList = r.data.toList.take j := by simp
                have hxz : (r.extract 0 j).size = j := by rw [ByteArray.size_extract]; omega
                have HXS := Lib.hid hxs
                have HXZ := Lib.hid hxz
                clear hxs hxz
                go_wp2_with (first
                  | (at_builtin; refine Lib.wpList_append_own_string _ rfl _ _ 40 9 rfl (w.heap.size + 1) 5 i0 Tryd.underlying40 Tryd.underlying9 hi hz0 hz1 hz2 _ _ _ rfl hrow2 (r.extract 0 j) rfl (by rw [HXZ.out]; omega) (by rw [HXZ.out]; omega) (by have := hR2.size; omega) ?_; intro v' w3 hown' hgrow _; rw [cells_app, len_app] at hown'; have hR3 := res_grown0 hR2 hrow2 hgrow; clear hgrow; have hln : (pre ++ (r.extract 0 j).data.toList).length = pre.length + j := by rw [List.length_append, HXS.out, List.length_take]; (have : r.data.toList.length = r.size := Array.length_toList); omega)
                  | (at_builtin; refine wpList_append_own _ rfl _ _ 40 rfl (w.heap.size + 1) 5 i0 (.int .u8 0) 1 1 Tryd.underlying40 hi hz0 hz1 hz2 rfl (by decide) _ _ _ rfl (hown'.alloc _) ⟨w3.heap.size, 0, none⟩ 1 1 [.int .u8 c.toNat] rfl rfl (cell_one_new _ _ _) (by simp [Value.oneCell']) (by omega) (by omega) (by have := hR3.size; simp; omega) ?_; intro v'' w4 hown'' hgrow _; have hR4 := res_grown hR3 hown' hgrow))
                go_roundg g
                case measure => omega
                case rel => exact ⟨r.extract (j + 3) r.size, pre ++ (r.extract 0 j).data.toList ++ [c], rfl, by rw [drop_to_size]; omega, by rw [HXS.out]; exact HL2.out, by rw [drop_to_size, List.length_append, hln]; simp; omega, hR4, by simpa [Nat.add_assoc] using hown''⟩

end Go.Proofs.YtpnjolacmkcofaaDoor
