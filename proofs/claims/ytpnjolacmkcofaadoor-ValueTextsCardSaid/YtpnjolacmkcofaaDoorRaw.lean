/-
  CONTRACT of the document's answer: raw (the bytes that digits, and plain bytes, stand for).
-/
import Derived.Test.YtpnjolacmkcofaaDoorRefNum
namespace Go.Proofs.YtpnjolacmkcofaaDoor
open Go.RowKit Go.Shelf

/-- What raw answers. -/
def RawEnd (b : UInt8 → List UInt8) (l : List UInt8) (e : Ending) : Prop :=
  ∃ (u : ByteArray) (ok : Bool), e = .returned (.tuple #[.string u, .bool ok]) ∧ u.size ≤ maxLen ∧ (ok = true → flatL b u.data.toList = l) ∧ (∀ t, flatL b t = l → ok = true ∧ u = ⟨t.toArray⟩)
theorem raw_no {b : UInt8 → List UInt8} {l : List UInt8} (h : ∀ t, flatL b t ≠ l) : RawEnd b l (.returned (.tuple #[.string ⟨#[]⟩, .bool false])) := ⟨_, false, rfl, by decide, (fun h => by cases h), fun t ht => absurd ht (h t)⟩
theorem raw_yes {b : UInt8 → List UInt8} {l pre : List UInt8} (hs : flatL b pre = l) (hc : ∀ t, flatL b t = l → t = pre) (hl : pre.length ≤ maxLen) : RawEnd b l (.returned (.tuple #[.string ⟨pre.toArray⟩, .bool true])) :=
  ⟨_, true, rfl, by rw [size_mk]; exact hl, fun _ => hs, fun t ht => ⟨rfl, by rw [hc t ht]⟩⟩

theorem nib_all : ∀ n : Fin 256, -1 ≤ nibI n.val ∧ nibI n.val ≤ 15 ∧ (0 ≤ nibI n.val → hexD (nibI n.val).toNat = UInt8.ofNat n.val) := by decide +kernel
theorem nib_range (c : UInt8) : -1 ≤ nibI c.toNat ∧ nibI c.toNat ≤ 15 := by
  have h := nib_all ⟨c.toNat, c.toNat_lt⟩
  exact ⟨h.1, h.2.1⟩
theorem nib_back (c : UInt8) (h0 : 0 ≤ nibI c.toNat) : hexD (nibI c.toNat).toNat = c := by
  have h := (nib_all ⟨c.toNat, c.toNat_lt⟩).2.2 h0
  simpa using h
theorem nib_hexD : ∀ n : Fin 16, nibI (hexD n.val).toNat = n.val := by decide +kernel
theorem two_ok {x y c : UInt8} (hx : 0 ≤ nibI x.toNat) (hy : 0 ≤ nibI y.toNat) (hc : nibI x.toNat * 16 + nibI y.toNat = c.toNat) : hexL c = [x, y] := by
  have r1 := nib_range x
  have r2 := nib_range y
  unfold hexL
  have e1 : c.toNat / 16 = (nibI x.toNat).toNat := by omega
  have e2 : c.toNat % 16 = (nibI y.toNat).toNat := by omega
  rw [e1, e2, nib_back x hx, nib_back y hy]
theorem two_nib {x y d : UInt8} (h : hexL d = [x, y]) : nibI x.toNat = ((d.toNat / 16 : Nat) : Int) ∧ nibI y.toNat = ((d.toNat % 16 : Nat) : Int) := by
  have hd : d.toNat < 256 := d.toNat_lt
  unfold hexL at h
  injection h with h1 h2
  injection h2 with h2 _
  rw [← h1, ← h2]
  exact ⟨nib_hexD ⟨d.toNat / 16, by omega⟩, nib_hexD ⟨d.toNat % 16, by omega⟩⟩
theorem two_inj {x y c d : UInt8} (hc : nibI x.toNat * 16 + nibI y.toNat = c.toNat) (h : hexL d = [x, y]) : d = c := by
  obtain ⟨h1, h2⟩ := two_nib h
  exact UInt8.toNat_inj.1 (by omega)

/-- What holds between two rounds: what was read, and what is still to be read. -/
def RawMid (b : UInt8 → List UInt8) (l pre r : List UInt8) : Prop := flatL b pre ++ r = l ∧ Left b l pre r
theorem flatL_one (b : UInt8 → List UInt8) (pre : List UInt8) (c : UInt8) : flatL b (pre ++ [c]) = flatL b pre ++ b c := by
  induction pre with
  | nil => show b c ++ [] = _; simp [flatL]
  | cons d p ih => show b d ++ flatL b (p ++ [c]) = (b d ++ flatL b p) ++ b c; rw [ih, List.append_assoc]
theorem rawMid_new (b : UInt8 → List UInt8) (l : List UInt8) : RawMid b l [] l := ⟨rfl, left_new b l⟩
theorem rawMid_end {b : UInt8 → List UInt8} (hb : ∀ c, b c ≠ []) {l pre : List UInt8} (h : RawMid b l pre []) : flatL b pre = l ∧ ∀ t, flatL b t = l → t = pre := by
  refine ⟨by simpa using h.1, fun t ht => ?_⟩
  obtain ⟨t', h1, h2⟩ := h.2 t ht
  cases t' with
  | nil => rw [h1, List.append_nil]
  | cons d t'' =>
    have h3 : b d ++ flatL b t'' = [] := h2
    exact absurd (List.append_eq_nil_iff.1 h3).1 (hb d)
/-- a step: the next byte's text is known -/
theorem rawMid_step {b : UInt8 → List UInt8} {l pre r r' : List UInt8} {c : UInt8} (h : RawMid b l pre r) (hr : r = b c ++ r') (hne : b c ≠ []) (hu : ∀ d t, b d ++ flatL b t = r → d = c) : RawMid b l (pre ++ [c]) r' := by
  refine ⟨by rw [flatL_one, List.append_assoc, ← hr]; exact h.1, fun t ht => ?_⟩
  obtain ⟨t', h1, h2⟩ := h.2 t ht
  cases t' with
  | nil =>
    have h3 : [] = r := h2
    rw [hr] at h3
    exact absurd (List.append_eq_nil_iff.1 h3.symm).1 hne
  | cons d t'' =>
    have h3 : b d ++ flatL b t'' = r := h2
    obtain rfl := hu d t'' h3
    rw [hr] at h3
    exact ⟨t'', by rw [h1]; simp, List.append_cancel_left h3⟩
/-- an end: no byte's text stands here -/
theorem rawMid_no {b : UInt8 → List UInt8} {l pre r : List UInt8} (h : RawMid b l pre r) (hr : r ≠ []) (hu : ∀ d t, b d ++ flatL b t ≠ r) (t : List UInt8) : flatL b t ≠ l := fun ht => by
  obtain ⟨t', _, h2⟩ := h.2 t ht
  cases t' with
  | nil => exact hr h2.symm
  | cons d t'' => exact hu d t'' h2

/-- two digits ahead -/
theorem hex_step {l pre r : List UInt8} {x y c : UInt8} (h : RawMid hexL l pre (x :: y :: r)) (hx : 0 ≤ nibI x.toNat) (hy : 0 ≤ nibI y.toNat) (hc : nibI x.toNat * 16 + nibI y.toNat = c.toNat) : RawMid hexL l (pre ++ [c]) r :=
  rawMid_step h (by rw [two_ok hx hy hc]; rfl) (hexL_ne c) fun d t ht => by
    have h2 : hexL d = [x, y] := by
      have : (hexL d ++ flatL hexL t).take 2 = [x, y] := by rw [ht]; rfl
      simpa [hexL] using this
    exact two_inj hc h2
theorem hex_no {l pre r : List UInt8} {x y : UInt8} (h : RawMid hexL l pre (x :: y :: r)) (hn : nibI x.toNat < 0 ∨ nibI y.toNat < 0) : ∀ t, flatL hexL t ≠ l :=
  rawMid_no h (by simp) fun d t ht => by
    have h2 : hexL d = [x, y] := by
      have : (hexL d ++ flatL hexL t).take 2 = [x, y] := by rw [ht]; rfl
      simpa [hexL] using this
    obtain ⟨h3, h4⟩ := two_nib h2
    omega
theorem hex_short {l pre : List UInt8} {x : UInt8} (h : RawMid hexL l pre [x]) : ∀ t, flatL hexL t ≠ l :=
  rawMid_no h (by simp) fun d t ht => by
    have := congrArg List.length ht
    simp [hexL] at this
/-- a byte that stands as itself ahead -/
theorem plain_step {l pre r : List UInt8} {c : UInt8} (h : RawMid escL l pre (c :: r)) (hp : plainB c.toNat = true) : RawMid escL l (pre ++ [c]) r :=
  rawMid_step h (by rw [escL_plain hp]; rfl) (escL_ne c) fun d t ht => by
    by_cases hd : plainB d.toNat = true
    · rw [escL_plain hd] at ht
      injection ht
    · rw [escL_not (by simpa using hd)] at ht
      injection ht with h1 _
      exact absurd h1.symm (plain_ne hp)
theorem esc_mark {l pre r : List UInt8} {c : UInt8} (h : RawMid escL l pre (c :: r)) (hp : plainB c.toNat = false) (h92 : c ≠ 92) : ∀ t, flatL escL t ≠ l :=
  rawMid_no h (by simp) fun d t ht => by
    by_cases hd : plainB d.toNat = true
    · rw [escL_plain hd] at ht
      injection ht with h1 _
      rw [h1, hp] at hd
      cases hd
    · rw [escL_not (by simpa using hd)] at ht
      injection ht with h1 _
      exact h92 h1.symm
theorem esc_code {d : UInt8} {t r : List UInt8} {x y : UInt8} (ht : escL d ++ flatL escL t = 92 :: x :: y :: r) : plainB d.toNat = false ∧ hexL d = [x, y] := by
  by_cases hd : plainB d.toNat = true
  · rw [escL_plain hd] at ht
    injection ht with h1 _
    exact absurd h1 (plain_ne hd)
  · have hd' : plainB d.toNat = false := by simpa using hd
    rw [escL_not hd'] at ht
    refine ⟨hd', ?_⟩
    have : ((92 :: hexL d) ++ flatL escL t).take 3 = [92, x, y] := by rw [ht]; rfl
    simpa [hexL] using this
theorem esc_step {l pre r : List UInt8} {x y c : UInt8} (h : RawMid escL l pre (92 :: x :: y :: r)) (hx : 0 ≤ nibI x.toNat) (hy : 0 ≤ nibI y.toNat) (hc : nibI x.toNat * 16 + nibI y.toNat = c.toNat) (hp : plainB c.toNat = false) : RawMid escL l (pre ++ [c]) r :=
  rawMid_step h (by rw [escL_not hp, two_ok hx hy hc]; rfl) (escL_ne c) fun _ _ ht => two_inj hc (esc_code ht).2
theorem esc_no {l pre r : List UInt8} {x y : UInt8} (h : RawMid escL l pre (92 :: x :: y :: r)) (hn : nibI x.toNat < 0 ∨ nibI y.toNat < 0) : ∀ t, flatL escL t ≠ l :=
  rawMid_no h (by simp) fun d t ht => by
    obtain ⟨h3, h4⟩ := two_nib (esc_code ht).2
    omega
theorem esc_plain_no {l pre r : List UInt8} {x y c : UInt8} (h : RawMid escL l pre (92 :: x :: y :: r)) (hc : nibI x.toNat * 16 + nibI y.toNat = c.toNat) (hp : plainB c.toNat = true) : ∀ t, flatL escL t ≠ l :=
  rawMid_no h (by simp) fun d t ht => by
    obtain ⟨h3, h4⟩ := esc_code ht
    rw [two_inj hc h4, hp] at h3
    cases h3
theorem esc_short {l pre r : List UInt8} (h : RawMid escL l pre (92 :: r)) (hr : r.length < 2) : ∀ t, flatL escL t ≠ l :=
  rawMid_no h (by simp) fun d t ht => by
    by_cases hd : plainB d.toNat = true
    · rw [escL_plain hd] at ht
      injection ht with h1 _
      exact absurd h1 (plain_ne hd)
    · rw [escL_not (by simpa using hd)] at ht
      have := congrArg List.length ht
      simp [hexL] at this
      omega
theorem row_low {W w1 : World} {B : Nat} {e : TypeId} {size k : Nat} {v : Value} {xs : List Value} (h : W.ownsRow B e size v k xs) (hg : W.grownBy w1 v.ownBlock) (hB : B ≤ W.heap.size) : Below B W w1 :=
  (Below.refl B W).grown hg hB (fun k hk => (World.ownsRow.lt h k hk).1)
theorem drop_nil {s : ByteArray} {l : List UInt8} {k : Nat} (h : s.size ≤ k) (hl : l = s.data.toList.drop k) : l = [] := by rw [hl]; exact drop_end s k h

set_option maxRecDepth 100000 in
set_option maxHeartbeats 4000000 in
theorem raw_hex (s : ByteArray) (w : World) (hs : s.size ≤ 9000) :
    Calls Tryd.prog 24 #[.string s, .bool false] w fun e w' => RawEnd hexL s.data.toList e ∧ Below w.heap.size w w' := by
  obtain ⟨i0, hi, hz0, hz1, hz2⟩ := info_parts info8
  have hmx : 10000 ≤ maxLen := by decide
  go_enter Tryd.func24, Tryd.ntmps24
  go_wp2
  go_loopg [6, 7] (s.size) (fun g v x wr => ∃ (i : Nat) (pre : List UInt8), x = .int .i64 i ∧ i ≤ s.size ∧ s.size ≤ i + g ∧ Hid (RawMid hexL s.data.toList pre (s.data.toList.drop i)) ∧ pre.length ≤ i ∧ wr.ownsRow w.heap.size 5 1 v pre.length (pre.map (fun c : UInt8 => Value.int .u8 c.toNat)) ∧ Hid (Below w.heap.size w wr) ∧ w.heap.size ≤ wr.heap.size)
  case atStart => exact ⟨0, [], rfl, by omega, by omega, (by show RawMid _ _ _ _; simpa using rawMid_new hexL s.data.toList), by simp, World.ownsRow_nil _ _ _ _, Below.refl _ _, Nat.le_refl _⟩
  case round =>
    obtain ⟨i, pre, rfl, his, hg, HM, hpl, hrow, HB, hsz⟩ := hrel
    by_cases he : i = s.size
    · have hiz : ¬ ((i : Int) < (s.size : Int)) := by omega
      have hm := HM.out
      rw [drop_end s i (by omega)] at hm
      have HE := Lib.hid (rawMid_end hexL_ne hm)
      have hcv := own_string wr _ _ _ hrow
      clear hm he
      go_wp2
      go_ret2
      exact ⟨raw_yes HE.out.1 HE.out.2 (by omega), HB.out⟩
    · have hiz : (i : Int) < (s.size : Int) := by omega
      have hin : i < s.size := by omega
      by_cases h2 : i + 2 ≤ s.size
      · have h2i : ¬ ((s.size : Int) < (i : Int) + 2) := by omega
        have hin2 : i + 1 < s.size := by omega
        have hm := HM.out
        rw [drop_at s i hin, drop_at s (i + 1) hin2] at hm
        have HM2 := Lib.hid hm
        have r1 := nib_range s[i]
        have r2 := nib_range s[i + 1]
        obtain ⟨a, ha⟩ : ∃ a, nibI s[i].toNat = a := ⟨_, rfl⟩
        obtain ⟨b, hb⟩ : ∃ b, nibI s[i + 1].toNat = b := ⟨_, rfl⟩
        rw [ha] at r1
        rw [hb] at r2
        have HA := Lib.hid ha
        have HBb := Lib.hid hb
        have c1 := fun W => nibble_any s[i] W
        have c2 := fun W => nibble_any s[i + 1] W
        rw [ha] at c1
        rw [hb] at c2
        have C1 := Lib.hid c1
        have C2 := Lib.hid c2
        clear hm ha hb c1 c2 he
        go_wp2_with fail
        refine (C1.out _).mono ?_
        rintro e w1 ⟨rfl, rfl⟩
        go_wp2_with fail
        refine (C2.out _).mono ?_
        rintro e w1 ⟨rfl, rfl⟩
        by_cases hn : a < 0 ∨ b < 0
        · have HN := Lib.hid (hex_no HM2.out (by rw [HA.out, HBb.out]; exact hn))
          rcases hn with hn | hn
          · go_wp2
            go_ret2
            exact ⟨raw_no HN.out, HB.out⟩
          · by_cases hn2 : a < 0
            · go_wp2
              go_ret2
              exact ⟨raw_no HN.out, HB.out⟩
            · go_wp2
              go_ret2
              exact ⟨raw_no HN.out, HB.out⟩
        · have hna : 0 ≤ a := by omega
          have hnb : 0 ≤ b := by omega
          obtain ⟨c, hc⟩ : ∃ c : UInt8, a * 16 + b = (c.toNat : Int) := ⟨UInt8.ofNat (a * 16 + b).toNat, by rw [UInt8.toNat_ofNat']; omega⟩
          have HS := Lib.hid (hex_step (c := c) HM2.out (by rw [HA.out]; exact hna) (by rw [HBb.out]; exact hnb) (by rw [HA.out, HBb.out]; exact hc))
          have hcl : c.toNat < 256 := c.toNat_lt
          clear hn
          go_wp2_with (at_builtin; refine wpList_append_own _ rfl _ _ 40 rfl w.heap.size 5 i0 (.int .u8 0) 1 1 Tryd.underlying40 hi hz0 hz1 hz2 rfl (by decide) _ _ _ rfl (hrow.alloc _) ⟨wr.heap.size, 0, none⟩ 1 1 [.int .u8 c.toNat] rfl rfl (cell_one_new _ _ _) (by simp [Value.oneCell']) (by omega) (by omega) (by simp; omega) ?_; intro v' w3 hown' hgrow _)
          go_roundg (gk - 2)
          case measure => omega
          case rel => exact ⟨i + 2, pre ++ [c], by go_num, by omega, by omega, HS.out, by simp; omega, by simpa using hown', (HB.out.alloc hsz _).trans (row_low (hrow.alloc _) hgrow (by simp; omega)), by have := hgrow.size; simp at this; omega⟩
      · have h2i : (s.size : Int) < (i : Int) + 2 := by omega
        have hm := HM.out
        rw [drop_at s i hin, drop_end s (i + 1) (by omega)] at hm
        have HN := Lib.hid (hex_short hm)
        clear hm he
        go_wp2
        go_ret2
        exact ⟨raw_no HN.out, HB.out⟩

set_option maxRecDepth 100000 in
set_option maxHeartbeats 4000000 in
theorem raw_esc (s : ByteArray) (w : World) (hs : s.size ≤ 9000) :
    Calls Tryd.prog 24 #[.string s, .bool true] w fun e w' => RawEnd escL s.data.toList e ∧ Below w.heap.size w w' := by
  obtain ⟨i0, hi, hz0, hz1, hz2⟩ := info_parts info8
  have hmx : 10000 ≤ maxLen := by decide
  go_enter Tryd.func24, Tryd.ntmps24
  go_wp2
  go_loopg [6, 7] (s.size) (fun g v x wr => ∃ (i : Nat) (pre : List UInt8), x = .int .i64 i ∧ i ≤ s.size ∧ s.size ≤ i + g ∧ Hid (RawMid escL s.data.toList pre (s.data.toList.drop i)) ∧ pre.length ≤ i ∧ wr.ownsRow w.heap.size 5 1 v pre.length (pre.map (fun c : UInt8 => Value.int .u8 c.toNat)) ∧ Hid (Below w.heap.size w wr) ∧ w.heap.size ≤ wr.heap.size)
  case atStart => exact ⟨0, [], rfl, by omega, by omega, (by show RawMid _ _ _ _; simpa using rawMid_new escL s.data.toList), by simp, World.ownsRow_nil _ _ _ _, Below.refl _ _, Nat.le_refl _⟩
  case round =>
    obtain ⟨i, pre, rfl, his, hg, HM, hpl, hrow, HB, hsz⟩ := hrel
    by_cases he : i = s.size
    · have hiz : ¬ ((i : Int) < (s.size : Int)) := by omega
      have hm := HM.out
      rw [drop_end s i (by omega)] at hm
      have HE := Lib.hid (rawMid_end escL_ne hm)
      have hcv := own_string wr _ _ _ hrow
      clear hm he
      go_wp2
      go_ret2
      exact ⟨raw_yes HE.out.1 HE.out.2 (by omega), HB.out⟩
    · have hiz : (i : Int) < (s.size : Int) := by omega
      have hin : i < s.size := by omega
      have hm := HM.out
      rw [drop_at s i hin] at hm
      have HM1 := Lib.hid hm
      clear hm he
      cases hp : plainB (s[i].toNat : Int)
      · have HP := Lib.hid hp
        have cp : Hid (∀ W, Calls Tryd.prog 20 #[.int .u8 s[i].toNat] W fun e w' => e = .returned (.bool false) ∧ W = w') := fun W => by have := refPlain_any s[i] W; rw [hp] at this; exact this
        clear hp
        go_wp2_with fail
        refine (cp.out _).mono ?_
        rintro e w1 ⟨rfl, rfl⟩
        by_cases h92 : s[i] = 92
        · have hc92 : ((s[i].toNat : Int) != 92) = false := by rw [h92]; rfl
          have hm := HM1.out
          rw [h92] at hm
          have HM9 := Lib.hid hm
          clear hm h92
          by_cases h2 : i + 3 ≤ s.size
          · have h2i : ¬ ((s.size : Int) < (i : Int) + 3) := by omega
            have hin1 : i + 1 < s.size := by omega
            have hin2 : i + 1 + 1 < s.size := by omega
            have hm := HM9.out
            rw [drop_at s (i + 1) hin1, drop_at s (i + 1 + 1) hin2] at hm
            have HM2 := Lib.hid hm
            have r1 := nib_range s[i + 1]
            have r2 := nib_range s[i + 1 + 1]
            obtain ⟨a, ha⟩ : ∃ a, nibI s[i + 1].toNat = a := ⟨_, rfl⟩
            obtain ⟨b, hb⟩ : ∃ b, nibI s[i + 1 + 1].toNat = b := ⟨_, rfl⟩
            rw [ha] at r1
            rw [hb] at r2
            have HA := Lib.hid ha
            have HBb := Lib.hid hb
            have c1 := fun W => nibble_any s[i + 1] W
            have c2 := fun W => nibble_any s[i + 1 + 1] W
            rw [ha] at c1
            rw [hb] at c2
            have C1 := Lib.hid c1
            have C2 := Lib.hid c2
            clear hm ha hb c1 c2
            go_wp2_with fail
            refine (C1.out _).mono ?_
            rintro e w1 ⟨rfl, rfl⟩
            go_wp2_with fail
            refine (C2.out _).mono ?_
            rintro e w1 ⟨rfl, rfl⟩
            by_cases hn : a < 0 ∨ b < 0
            · have HN := Lib.hid (esc_no HM2.out (by rw [HA.out, HBb.out]; exact hn))
              rcases hn with hn | hn
              · go_wp2
                go_ret2
                exact ⟨raw_no HN.out, HB.out⟩
              · by_cases hn2 : a < 0
                · go_wp2
                  go_ret2
                  exact ⟨raw_no HN.out, HB.out⟩
                · go_wp2
                  go_ret2
                  exact ⟨raw_no HN.out, HB.out⟩
            · have hna : 0 ≤ a := by omega
              have hnb : 0 ≤ b := by omega
              have hna' : ¬ a < 0 := by omega
              have hnb' : ¬ b < 0 := by omega
              obtain ⟨c, hc⟩ : ∃ c : UInt8, a * 16 + b = (c.toNat : Int) := ⟨UInt8.ofNat (a * 16 + b).toNat, by rw [UInt8.toNat_ofNat']; omega⟩
              have hcl : c.toNat < 256 := c.toNat_lt
              clear hn
              cases hpc : plainB (c.toNat : Int)
              · have HS := Lib.hid (esc_step (c := c) HM2.out (by rw [HA.out]; exact hna) (by rw [HBb.out]; exact hnb) (by rw [HA.out, HBb.out]; exact hc) hpc)
                have cq : Hid (∀ W, Calls Tryd.prog 20 #[.int .u8 c.toNat] W fun e w' => e = .returned (.bool false) ∧ W = w') := fun W => by have := refPlain_any c W; rw [hpc] at this; exact this
                clear hpc
                go_wp2_with fail
                refine (cq.out _).mono ?_
                rintro e w1 ⟨rfl, rfl⟩
                go_wp2_with (at_builtin; refine wpList_append_own _ rfl _ _ 40 rfl w.heap.size 5 i0 (.int .u8 0) 1 1 Tryd.underlying40 hi hz0 hz1 hz2 rfl (by decide) _ _ _ rfl (hrow.alloc _) ⟨wr.heap.size, 0, none⟩ 1 1 [.int .u8 c.toNat] rfl rfl (cell_one_new _ _ _) (by simp [Value.oneCell']) (by omega) (by omega) (by simp; omega) ?_; intro v' w3 hown' hgrow _)
                go_roundg (gk - 3)
                case measure => omega
                case rel => exact ⟨i + 3, pre ++ [c], by go_num, by omega, by omega, HS.out, by simp; omega, by simpa using hown', (HB.out.alloc hsz _).trans (row_low (hrow.alloc _) hgrow (by simp; omega)), by have := hgrow.size; simp at this; omega⟩
              · have HN := Lib.hid (esc_plain_no (c := c) HM2.out (by rw [HA.out, HBb.out]; exact hc) hpc)
                have cq : Hid (∀ W, Calls Tryd.prog 20 #[.int .u8 c.toNat] W fun e w' => e = .returned (.bool true) ∧ W = w') := fun W => by have := refPlain_any c W; rw [hpc] at this; exact this
                clear hpc
                go_wp2_with fail
                refine (cq.out _).mono ?_
                rintro e w1 ⟨rfl, rfl⟩
                go_wp2
                go_ret2
                exact ⟨raw_no HN.out, HB.out⟩
          · have h2i : (s.size : Int) < (i : Int) + 3 := by omega
            have HN := Lib.hid (esc_short HM9.out (by rw [List.length_drop, Array.length_toList]; show s.size - (i + 1) < 2; omega))
            go_wp2
            go_ret2
            exact ⟨raw_no HN.out, HB.out⟩
        · have hc92 : ((s[i].toNat : Int) != 92) = true := by
            have : s[i].toNat ≠ 92 := fun e => h92 (UInt8.toNat_inj.1 e)
            simp; omega
          have HN := Lib.hid (esc_mark HM1.out HP.out h92)
          clear h92
          go_wp2
          go_ret2
          exact ⟨raw_no HN.out, HB.out⟩
      · have HS := Lib.hid (plain_step HM1.out hp)
        have cp : Hid (∀ W, Calls Tryd.prog 20 #[.int .u8 s[i].toNat] W fun e w' => e = .returned (.bool true) ∧ W = w') := fun W => by have := refPlain_any s[i] W; rw [hp] at this; exact this
        clear hp
        go_wp2_with fail
        refine (cp.out _).mono ?_
        rintro e w1 ⟨rfl, rfl⟩
        go_wp2_with (at_builtin; refine wpList_append_own _ rfl _ _ 40 rfl w.heap.size 5 i0 (.int .u8 0) 1 1 Tryd.underlying40 hi hz0 hz1 hz2 rfl (by decide) _ _ _ rfl (hrow.alloc _) ⟨wr.heap.size, 0, none⟩ 1 1 [.int .u8 s[i].toNat] rfl rfl (cell_one_new _ _ _) (by simp [Value.oneCell']) (by omega) (by omega) (by simp; omega) ?_; intro v' w3 hown' hgrow _)
        go_roundg (gk - 1)
        case measure => omega
        case rel => exact ⟨i + 1, pre ++ [s[i]], by go_num, by omega, by omega, HS.out, by simp; omega, by simpa using hown', (HB.out.alloc hsz _).trans (row_low (hrow.alloc _) hgrow (by simp; omega)), by have := hgrow.size; simp at this; omega⟩

end Go.Proofs.YtpnjolacmkcofaaDoor
