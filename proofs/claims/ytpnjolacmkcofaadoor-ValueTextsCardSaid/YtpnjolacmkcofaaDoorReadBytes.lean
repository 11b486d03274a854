/-
  CONTRACTS of what reads a text: readBytes.
-/
import Derived.Test.YtpnjolacmkcofaaDoorReadNum
import Derived.OwnWalk
import Derived.Lib.Strings
import Derived.Lib.IndexBytes
namespace Go.Proofs.YtpnjolacmkcofaaDoor
open Go.RowKit Go.Shelf

/-- What is still to be read is what is left of the bytes' text. -/
def Left (b : UInt8 → List UInt8) (l : List UInt8) (pre : List UInt8) (r : List UInt8) : Prop := ∀ t, flatL b t = l → ∃ t', t = pre ++ t' ∧ flatL b t' = r
theorem left_new (b : UInt8 → List UInt8) (l : List UInt8) : Left b l [] l := fun t h => ⟨t, rfl, h⟩
theorem left_hex {l pre : List UInt8} {r : List UInt8} (h : Left hexL l pre r) (hne : r ≠ []) : (rhL r).2 = true → Left hexL l (pre ++ [(rhL r).1]) (r.drop 2) := fun _ t ht => by
  obtain ⟨t', h1, h2⟩ := h t ht
  cases t' with
  | nil => exact absurd h2.symm hne
  | cons d t'' =>
    have h3 : r = hexL d ++ flatL hexL t'' := h2.symm
    rw [h3, rhL_hexL]
    exact ⟨t'', by rw [h1]; simp, by simp [hexL]⟩
theorem left_no {l pre : List UInt8} {r : List UInt8} (h : Left hexL l pre r) (hne : r ≠ []) (ho : (rhL r).2 = false) (t : List UInt8) : flatL hexL t ≠ l := fun ht => by
  obtain ⟨t', h1, h2⟩ := h t ht
  cases t' with
  | nil => exact hne h2.symm
  | cons d t'' =>
    have h3 : r = hexL d ++ flatL hexL t'' := h2.symm
    rw [h3, rhL_hexL] at ho
    cases ho

theorem str_nil {r : ByteArray} (h : r.size = 0) : r.data.toList = [] := by
  rw [← List.length_eq_zero_iff]; exact h
theorem left_end {b : UInt8 → List UInt8} (hb : ∀ c, b c ≠ []) {l pre : List UInt8} {r : ByteArray} (hr : r.size = 0) (h : Left b l pre r.data.toList) (t : List UInt8) (ht : flatL b t = l) : t = pre := by
  obtain ⟨t', h1, h2⟩ := h t ht
  rw [str_nil hr] at h2
  cases t' with
  | nil => rw [h1, List.append_nil]
  | cons d t'' =>
    have h3 : b d ++ flatL b t'' = [] := h2
    exact absurd (List.append_eq_nil_iff.1 h3).1 (hb d)
theorem hexL_ne (c : UInt8) : hexL c ≠ [] := by simp [hexL]
theorem escL_ne (c : UInt8) : escL c ≠ [] := by unfold escL; split <;> simp [hexL]

/-- An owned row, behind a call of which 'Below' is known. -/
theorem row_below {w w' : World} {base : Nat} {e : TypeId} {size k : Nat} {v : Value} {xs : List Value} (h : w.ownsRow base e size v k xs) (hb : Below w.heap.size w w') : w'.ownsRow base e size v k xs := by
  refine h.kept (grown_of_below hb) ?_
  rcases h.2 with ⟨rfl, _⟩ | ⟨g, cap, cur, rfl, _, hgb, _⟩
  · exact .inl rfl
  · exact .inr (by simp [Value.ownBlock])
theorem res_grown {w W w1 : World} {e : TypeId} {size k : Nat} {v : Value} {xs : List Value} {tmp : Obj} (h : Res w W) (hr : W.ownsRow (w.heap.size + 1) e size v k xs) (hg : (W.alloc tmp).grownBy w1 v.ownBlock) : Res w w1 := by
  refine h.next (B := w.heap.size + 1) (((Below.refl _ W).alloc h.size tmp).grown hg (by have := h.size; simp; omega) (fun j ej => ?_)) (by omega)
  rcases hr.2 with ⟨rfl, _⟩ | ⟨g, cap, cur, rfl, hb, _, _⟩
  · simp [Value.ownBlock] at ej
  · obtain rfl : g = j := by simpa [Value.ownBlock] using ej
    exact hb

/-- What readBytes, readText answer. -/
def BytesEnds (k : Int) (b : UInt8 → List UInt8) (l : List UInt8) (e : Ending) : Prop :=
  ∃ (k' : Int) (t : ByteArray) (ok : Bool), e = .returned (.tuple #[.agg #[.int .i64 k', .int .i64 0, .string t], .bool ok]) ∧ (ok = true → t.size ≤ maxLen) ∧ (∀ u, flatL b u = l → k' = k ∧ t = ⟨u.toArray⟩ ∧ ok = true)
theorem bytes_no {k : Int} {b : UInt8 → List UInt8} {l : List UInt8} (h : ∀ t, flatL b t ≠ l) : BytesEnds k b l (.returned (.tuple #[.agg #[.int .i64 0, .int .i64 0, .string ⟨#[]⟩], .bool false])) :=
  ⟨0, _, false, rfl, (fun h => by cases h), fun u hu => absurd hu (h u)⟩
theorem bytes_done {k : Int} {b : UInt8 → List UInt8} {l pre : List UInt8} (h : ∀ t, flatL b t = l → t = pre) (hl : pre.length ≤ maxLen) : BytesEnds k b l (.returned (.tuple #[.agg #[.int .i64 k, .int .i64 0, .string ⟨pre.toArray⟩], .bool true])) :=
  ⟨k, _, true, rfl, fun _ => by rw [size_mk]; exact hl, fun u hu => ⟨rfl, by rw [h u hu], rfl⟩⟩

theorem drop2 (r : ByteArray) : (r.extract 2 r.size).data.toList = r.data.toList.drop 2 := by
  exact Lib.extract_to_end r 2
theorem drop2_size (r : ByteArray) : (r.extract 2 r.size).size = r.size - 2 := by
  have h1 := congrArg List.length (drop2 r)
  rw [List.length_drop] at h1
  exact h1

set_option maxRecDepth 100000 in
set_option maxHeartbeats 2000000 in
theorem readBytes_any (s : ByteArray) (w : World) (hs : s.size ≤ 4000) :
    Calls Tryd.prog 39 #[.string s] w fun e w' => BytesEnds 4 hexL s.data.toList e ∧ Below w.heap.size w w' := by
  obtain ⟨i0, hi, hz0, hz1, hz2⟩ := info_parts info8
  have hmx : 5000 ≤ maxLen := by decide
  have r0 := res_new w 23
  go_enter Tryd.func39, Tryd.ntmps39
  go_wp2
  go_loopw [0, 4] (fun x v wr => ∃ (r : ByteArray) (pre : List UInt8), x = .string r ∧ Left hexL s.data.toList pre r.data.toList ∧ pre.length + r.size ≤ 4000 ∧ Res w wr ∧ wr.ownsRow (w.heap.size + 1) 5 1 v pre.length (pre.map (fun c : UInt8 => Value.int .u8 c.toNat))) (fun x _ _ => match x with | .string r => r.size | _ => 0)
  case atStart => exact ⟨s, [], rfl, left_new _ _, by simpa using hs, r0, World.ownsRow_nil _ _ _ _⟩
  case round =>
    obtain ⟨r, pre, rfl, hL, hlen, hR, hrow⟩ := hrel
    have HL := Lib.hid hL
    clear hL r0
    by_cases hr : r.size = 0
    · have he := emp_yes hr
      have hcv := own_string wr _ _ _ hrow
      have e0 := hR.c0
      have e1 := hR.c1
      have e2 := hR.c2
      have f0 := hR.f0
      have f1 := hR.f1
      have f2 := hR.f2
      have HR0 := Lib.hid hr
      clear hr
      go_wp2
      refine bodyPost_ret (v := .tuple #[.agg #[.int .i64 4, .int .i64 0, .string ⟨pre.toArray⟩], .bool true]) ?_ rfl ⟨bytes_done (left_end hexL_ne HR0.out HL.out) (by omega), ?_⟩
      · rw [results_cell_tmp rfl]; go_simp
      · exact ((hR.low.setCell (p := ⟨w.heap.size, 0, none⟩) (Nat.le_refl _) _).setCell (p := ⟨w.heap.size, 1, none⟩) (Nat.le_refl _) _).setCell (p := ⟨w.heap.size, 2, none⟩) (Nat.le_refl _) _
    · have hp : 0 < r.size := by omega
      have he := emp_no hp
      have hn := emp_ne hp
      have hne : r.data.toList ≠ [] := by rw [← ByteArray.toList_eq]; exact hn
      clear hr
      have HNE := Lib.hid hne
      clear hne
      go_wp2_with fail
      refine (readHex_any r _ (by omega)).mono ?_
      rintro e w2 ⟨he2, hb2⟩
      unfold RhEnd at he2
      obtain ⟨c, ok, hc⟩ : ∃ c ok, rhL r.data.toList = (c, ok) := ⟨_, _, rfl⟩
      rw [hc] at he2
      simp only at he2
      subst he2
      have hR2 : Res w w2 := hR.next hb2 hR.size
      have hrow2 := row_below hrow hb2
      clear hR hrow hb2
      cases ok
      · have hF : Hid (∀ t, flatL hexL t ≠ s.data.toList) := left_no HL.out HNE.out (by rw [hc])
        have e0 := hR2.c0
        have e1 := hR2.c1
        have e2 := hR2.c2
        have f0 := hR2.f0
        have f1 := hR2.f1
        have f2 := hR2.f2
        clear hc
        go_wp2
        refine bodyPost_ret (v := .tuple #[.agg #[.int .i64 0, .int .i64 0, .string ⟨#[]⟩], .bool false]) ?_ rfl ⟨bytes_no hF.out, ?_⟩
        · rw [results_cell_tmp rfl]; go_simp
        · exact ((hR2.low.setCell (p := ⟨w.heap.size, 0, none⟩) (Nat.le_refl _) _).setCell (p := ⟨w.heap.size, 1, none⟩) (Nat.le_refl _) _).setCell (p := ⟨w.heap.size, 2, none⟩) (Nat.le_refl _) _
      · have hL2 := left_hex HL.out HNE.out (by rw [hc])
        rw [hc] at hL2
        simp only at hL2
        rw [← drop2] at hL2
        have h2 : 2 ≤ r.size := by have h9 := rhL_ok (l := r.data.toList) (by rw [hc]); exact h9
        have hd := drop2_size r
        have hd2 : pre.length + 1 + (r.extract 2 r.size).size ≤ 4000 := by omega
        have hd3 : (r.extract 2 r.size).size < r.size := by omega
        have HL2 := Lib.hid hL2
        have HD2 := Lib.hid hd2
        have HD3 := Lib.hid hd3
        clear hc hL2 hd hd2 hd3
        go_wp2_with (at_builtin; refine wpList_append_own _ rfl _ _ 40 rfl (w.heap.size + 1) 5 i0 (.int .u8 0) 1 1 Tryd.underlying40 hi hz0 hz1 hz2 rfl (by decide) _ _ _ rfl (hrow2.alloc _) ⟨w2.heap.size, 0, none⟩ 1 1 [.int .u8 c.toNat] rfl rfl (cell_one_new _ _ _) (by simp [Value.oneCell']) (by omega) (by omega) (by have := hR2.size; simp; omega) ?_; intro v' w3 hown' hgrow _)
        have hR3 := res_grown hR2 hrow2 hgrow
        have hown3 : w3.ownsRow (w.heap.size + 1) 5 1 v' (pre ++ [c]).length ((pre ++ [c]).map (fun c : UInt8 => Value.int .u8 c.toNat)) := by simpa using hown'
        clear hown' hgrow hrow2 hR2
        go_wp2
        go_roundw
        case rel => exact ⟨_, pre ++ [c], rfl, HL2.out, by rw [List.length_append]; exact HD2.out, hR3, hown3⟩
        case measure => exact HD3.out

end Go.Proofs.YtpnjolacmkcofaaDoor
