/-
  CONTRACTS: Number, End (the document's).
-/
import Derived.Test.YtdlkblnnnmgijaaOEndsL
import Derived.Laws.AppendOwnNone
namespace Go.Proofs.Ytdlkblnnnmgijaa
open Go.RowKit Go.Shelf

theorem turned2 {n : Int} (h0 : -9223372036854775808 ≤ n) (h1 : n ≤ 9223372036854775807) : IntKind.u64.wrap (IntKind.u64.wrap n + 9223372036854775808) = ((turnN n : Nat) : Int) := by
  rw [IntKind.wrap_u64, IntKind.wrap_u64]; unfold turnN; omega
theorem be8_drop (T i : Nat) (h : i < 8) : (be8 T).drop (8 - (i + 1)) = UInt8.ofNat (T / 256 ^ i) :: (be8 T).drop (8 - i) := by
  match i, h with
  | 0, _ => simp [be8]
  | 1, _ => simp [be8]
  | 2, _ => simp [be8]
  | 3, _ => simp [be8]
  | 4, _ => simp [be8]
  | 5, _ => simp [be8]
  | 6, _ => simp [be8]
  | 7, _ => simp [be8]
theorem div_next (T i : Nat) : T / 256 ^ i / 256 = T / 256 ^ (i + 1) := by rw [Nat.div_div_eq_div_mul, Nat.pow_succ]

theorem own_lit (W : World) (B : Nat) (l : List UInt8) (n : Nat) (hB : B ≤ W.heap.size) (hl : l.length = n) (hn : n ≤ 50000) : (W.alloc (.cells (cellsL l).toArray 5)).ownsRow B 5 1 (.slice (some ⟨W.heap.size, 0, none⟩) n n) n (cellsL l) := by
  have hmx : 50000 ≤ maxLen := by decide
  have h := World.ownsRow_lit (base := B) (e := 5) (size := 1) W (cellsL l).toArray n hB (by omega) (by simp [cellsL_len, hl])
  simpa using h
theorem u64_val {a : Int} {b : Nat} (h : a = (b : Int)) : Value.int .u64 a = .int .u64 (b : Int) := by rw [h]
theorem drop_ne (T i : Nat) (h0 : 0 < i) (h : i < 8) : (be8 T).drop (8 - i) ≠ [] := by
  intro e
  have := congrArg List.length e
  rw [List.length_drop, be8_len] at this
  simp at this
  omega

set_option maxRecDepth 100000 in
set_option maxHeartbeats 1000000 in
theorem refNumber_any (n : Int) (w : World) (h0 : -9223372036854775808 ≤ n) (h1 : n ≤ 9223372036854775807) :
    Calls Try.prog 23 #[.int .i64 n] w (App w w.heap.size (numB n)) := by
  obtain ⟨i0, hi, hz0, hz1, hz2⟩ := info_parts info8
  have hmx : 50000 ≤ maxLen := by decide
  have ht := turned2 h0 h1
  obtain ⟨T, hT⟩ : ∃ T, turnN n = T := ⟨_, rfl⟩
  have hlt : T < 18446744073709551616 := by rw [← hT]; exact turn_lt h1
  rw [hT] at ht
  have HN : Hid (numB n = be8 T) := by show _ = _; unfold numB; rw [hT]
  clear hT
  go_enter Try.func23, Try.ntmps23
  go_wp2
  go_loopg [3, 4, 5] 8 (fun g x v y wr => ∃ (i V : Nat), x = .int .u64 (V : Int) ∧ y = .int .i64 i ∧ i + g = 8 ∧ V < 18446744073709551616 ∧ Hid (V = T / 256 ^ i) ∧ Hid (Below w.heap.size w wr) ∧ w.heap.size ≤ wr.heap.size ∧ ((i = 0 ∧ v = .slice none 0 0) ∨ (0 < i ∧ Hid (OwnB wr w.heap.size v ((be8 T).drop (8 - i))))))
  case atStart => exact ⟨0, T, by rw [← ht], rfl, by omega, hlt, (by show _ = _; simp), Below.refl _ _, Nat.le_refl _, .inl ⟨rfl, rfl⟩⟩
  case round =>
    obtain ⟨i, V, rfl, rfl, hg, hV, HV, HB, hsz, hc⟩ := hrel
    have h9 : gk = 0 ∨ 0 < gk := by omega
    rcases h9 with rfl | hgp
    · have hi8 : i = 8 := by omega
      subst hi8
      rcases hc with ⟨h, _⟩ | ⟨_, hc⟩
      · omega
      have HC := hc
      clear hc
      go_wp2
      go_ret
      refine app_mk ?_ HB.out
      rw [HN.out]
      exact HC.out
    · obtain ⟨g, rfl⟩ : ∃ g, gk = g + 1 := ⟨gk - 1, by omega⟩
      have hi8 : i < 8 := by omega
      have hi9 : (i : Int) < 8 := by omega
      obtain ⟨c, hcd⟩ : ∃ c : UInt8, UInt8.ofNat V = c := ⟨_, rfl⟩
      have hcv : ((V : Int) % 256) = (c.toNat : Int) := by rw [← hcd, byteN]; omega
      have HCD := Lib.hid hcd
      have HCV := Lib.hid hcv
      clear hcd
      rcases hc with ⟨rfl, rfl⟩ | ⟨hi0, hc⟩
      · go_wp2_with (at_builtin; refine wpList_append_own_none rfl _ _ 29 rfl w.heap.size 5 i0 1 Try.underlying29 hi _ 1 (cellsL [c]) rfl (own_lit wr w.heap.size [c] 1 hsz rfl (by decide)) rfl ?_)
        go_roundg g
        case measure => omega
        case rel => exact ⟨1, V / 256, u64_val (by omega), by go_num, by omega, by omega, (by show _ = _; rw [HV.out]; exact div_next T 0), HB.out.alloc hsz _, by simp; omega, .inr ⟨by omega, (by show OwnB _ _ _ _; rw [be8_drop T 0 (by omega), show T / 256 ^ 0 = V from HV.out.symm, HCD.out]; exact own_lit wr w.heap.size [c] 1 hsz rfl (by decide))⟩⟩
      · obtain ⟨A, cc, rfl⟩ := ownB_form hc.out
        have hS := (SlB.of_own hc.out).2
        obtain ⟨ad, rfl, hadl, hcells⟩ := hS (drop_ne T i hi0 hi8)
        have hlen : ((be8 T).drop (8 - i)).length ≤ 8 := by rw [List.length_drop, be8_len]; omega
        have HD := Lib.hid (be8_drop T i hi8)
        obtain ⟨L, hL⟩ : ∃ L, (be8 T).drop (8 - i) = L := ⟨_, rfl⟩
        rw [hL] at hcells hlen HD
        rw [hL]
        have HCL : Hid (∀ j u, (cellsL L)[j]? = some u → (wr.alloc (.cells (cellsL [c]).toArray 5)).cell? (ad.add j) = some u) := fun j u hu => by
          obtain ⟨x, hx, rfl⟩ := cellsL_at hu
          exact (((Below.refl wr.heap.size wr).alloc (Nat.le_refl _) _).cell (p := ad.add j) (by rw [add_block]; exact hadl)).trans (hcells j x hx)
        clear hcells hc hS hL
        go_wp2_with (at_builtin; refine wpList_append_own _ rfl _ _ 29 rfl w.heap.size 5 i0 (.int .u8 0) 1 1 Try.underlying29 hi hz0 hz1 hz2 rfl (by decide) _ 1 (cellsL [c]) rfl (own_lit wr w.heap.size [c] 1 hsz rfl (by decide)) ad L.length cc (cellsL L) rfl (by rw [cellsL_len, Nat.mul_one]) HCL.out (cellsL_one _) (by omega) (by omega) (by simp; omega) ?_; intro v' w3 hown' hgrow _)
        go_roundg g
        case measure => omega
        case rel => exact ⟨i + 1, V / 256, u64_val (by omega), by go_num, by omega, by omega, (by show _ = _; rw [HV.out]; exact div_next T i), (HB.out.alloc hsz _).trans (below_own (own_lit wr w.heap.size [c] 1 hsz rfl (by decide)) hgrow (by simp; omega)), by have := hgrow.size; simp at this; omega, .inr ⟨by omega, (by show OwnB _ _ _ _; rw [HD.out, show T / 256 ^ i = V from HV.out.symm, HCD.out]; rw [← cellsL_app] at hown'; show World.ownsRow _ _ _ _ _ _ _; simpa [Nat.add_comm] using hown')⟩⟩

theorem endF_here {l : List UInt8} {k : Nat} (h : k < l.length) (ha : ∀ d ∈ l.drop (k + 1), d = 255) (hc : l[k] ≠ 255) : endF l = some (l.take k ++ [l[k] + 1]) := by
  have h5 : l = l.take k ++ l[k] :: l.drop (k + 1) := by rw [← List.drop_eq_getElem_cons h, List.take_append_drop]
  have h6 := endF_at (l.take k) l[k] (l.drop (k + 1)) ha hc
  rwa [← h5] at h6
theorem drop_255 {l : List UInt8} {k : Nat} (h : k < l.length) (ha : ∀ d ∈ l.drop (k + 1), d = 255) (hc : l[k] = 255) : ∀ d ∈ l.drop k, d = 255 := fun d hd => by
  rw [List.drop_eq_getElem_cons h] at hd
  rcases List.mem_cons.1 hd with e | e
  · rw [e, hc]
  · exact ha d e

set_option maxRecDepth 100000 in
set_option maxHeartbeats 1000000 in
theorem refEnd_any (A : Option Addr) (c : Nat) (l : List UInt8) (w : World) (hs : SlB w w.heap.size A l) (hl : l.length ≤ 20000) (hlc : l.length ≤ c) :
    Calls Try.prog 19 #[.slice A l.length c] w (EndEnd w l) := by
  obtain ⟨i0, hi, hz0, hz1, hz2⟩ := info_parts info8
  have hmx : 50000 ≤ maxLen := by decide
  go_enter Try.func19, Try.ntmps19
  go_wp2
  go_loopg [4] l.length (fun g x wr => x = .int .i64 (g : Int) ∧ g ≤ l.length ∧ w = wr ∧ Hid (∀ d ∈ l.drop g, d = 255))
  case atStart => exact ⟨rfl, Nat.le_refl _, rfl, fun d hd => by simp at hd⟩
  case round =>
    obtain ⟨rfl, hg, rfl, HA⟩ := hrel
    cases gk with
    | zero =>
      go_wp2
      go_ret2
      exact endEnd_mk (.inr ⟨rfl, endF_all l (by have := HA.out; simpa using this), rfl⟩) (Below.refl _ _)
    | succ k =>
      have hk : k < l.length := by omega
      have hkk : (0 : Int) < ((k + 1 : Nat) : Int) := by omega
      obtain ⟨a, rfl, halt, hcells⟩ := hs (by intro e; rw [e] at hk; simp at hk)
      have hck := hcells k _ (List.getElem?_eq_getElem hk)
      have HC := Lib.hid hcells
      have hb := l[k].toNat_lt
      by_cases h255 : l[k] = 255
      · have hd : decide ((l[k].toNat : Int) < 255) = false := by rw [h255]; rfl
        have hd2 : ¬ ((l[k].toNat : Int) < 255) := by rw [h255]; decide
        have HD := Lib.hid (drop_255 hk HA.out h255)
        clear h255 hcells
        go_wp2
        go_roundg k
        case measure => omega
        case rel => exact ⟨by go_num, by omega, rfl, HD.out⟩
      · have hd : decide ((l[k].toNat : Int) < 255) = true := by
          rw [decide_eq_true_iff]
          have : l[k].toNat ≠ 255 := fun e => h255 (UInt8.toNat_inj.1 e)
          omega
        have hd2 := of_decide_eq_true hd
        have HE := Lib.hid (endF_here hk HA.out h255)
        clear hcells
        have HCL : Hid (∀ j u, (cellsL (l.take k))[j]? = some u → (w.alloc (.cells (cellsL []).toArray 5)).cell? (a.add j) = some u) := fun j u hu => by
          obtain ⟨x, hx, rfl⟩ := cellsL_at hu
          rw [List.getElem?_take] at hx
          split at hx
          · exact (((Below.refl w.heap.size w).alloc (Nat.le_refl _) _).cell (p := a.add j) (by rw [add_block]; exact halt)).trans (HC.out j x hx)
          · cases hx
        have hlt : (l.take k).length = k := by rw [List.length_take]; omega
        have hc9 : ((l[k].toNat : Int) + 1) = ((l[k] + 1).toNat : Int) := by rw [UInt8.toNat_add]; show _ = (((l[k].toNat + 1) % 256 : Nat) : Int); omega
        have HLT := Lib.hid hlt
        have HC9 := Lib.hid hc9
        have tok : True := trivial
        clear hlt hc9 h255

        go_wp2_with (first
          | (at_builtin; have _t := tok; refine wpList_append_own _ rfl _ _ 29 rfl w.heap.size 5 i0 (.int .u8 0) 1 1 Try.underlying29 hi hz0 hz1 hz2 rfl (by decide) _ 0 (cellsL []) rfl (own_lit w w.heap.size [] 0 (Nat.le_refl _) rfl (by decide)) a k c (cellsL (l.take k)) rfl (by rw [cellsL_len, HLT.out, Nat.mul_one]) HCL.out (cellsL_one _) (by omega) (by omega) (by simp) ?_; intro v' w3 hown' hgrow _; have HO3 : Hid (OwnB w3 w.heap.size v' (l.take k)) := (by show World.ownsRow _ _ _ _ _ _ _; rw [HLT.out]; simpa [cellsL] using hown'); have HB3 := Lib.hid (((Below.refl _ w).alloc (Nat.le_refl _) (.cells (cellsL []).toArray 5)).trans (below_own (own_lit w w.heap.size [] 0 (Nat.le_refl _) rfl (by decide)) hgrow (by simp))); have hck3 := (HB3.out.cell (p := a.add k) (by rw [add_block]; exact halt)).trans hck; clear tok hown' hgrow)
          | (at_builtin; refine wpList_append_own _ rfl _ _ 29 rfl w.heap.size 5 i0 (.int .u8 0) 1 1 Try.underlying29 hi hz0 hz1 hz2 rfl (by decide) _ _ _ rfl (HO3.out.alloc _) ⟨w3.heap.size, 0, none⟩ 1 1 (cellsL [l[k] + 1]) rfl rfl (fun j u h => cell_lit _ _ _ j u (by rw [← h, HC9.out]; rfl)) (cellsL_one _) (by rw [HLT.out]; omega) (by rw [HLT.out]; omega) (by have := HB3.out.size; simp; omega) ?_; intro v'' w4 hown'' hgrow' _))
        all_goals go_ret2
        all_goals refine endEnd_mk (.inl ⟨rfl, _, HE.out, ?_⟩) (HB3.out.trans (((Below.refl _ _).alloc HB3.out.size _).trans (below_own (HO3.out.alloc _) hgrow' (by have := HB3.out.size; simp; omega))))
        all_goals (rw [← cellsL_app] at hown''; show World.ownsRow _ _ _ _ _ _ _; simpa using hown'')
end Go.Proofs.Ytdlkblnnnmgijaa
