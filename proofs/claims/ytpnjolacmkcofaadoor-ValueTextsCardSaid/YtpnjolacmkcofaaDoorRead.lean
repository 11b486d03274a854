/-
  CONTRACT of read: the value that a text would be of.
-/
import Derived.Test.YtpnjolacmkcofaaDoorReadText
namespace Go.Proofs.YtpnjolacmkcofaaDoor
open Go.RowKit Go.Shelf

theorem dec_dig : ∀ (u : Nat) (c : UInt8), c ∈ Lib.decDigits u → 48 ≤ c.toNat ∧ c.toNat ≤ 57 := by
  intro u
  induction u using Nat.strongRecOn with
  | _ u ih =>
    intro c hc
    rw [Lib.decDigits] at hc
    have hd : ∀ d : Nat, d < 10 → 48 ≤ (UInt8.ofNat (48 + d)).toNat ∧ (UInt8.ofNat (48 + d)).toNat ≤ 57 := by
      intro d hd
      have : (UInt8.ofNat (48 + d)).toNat = 48 + d := by
        rw [UInt8.toNat_ofNat']; omega
      omega
    split at hc
    · rename_i hlt
      rw [List.mem_singleton] at hc
      subst hc
      exact hd u hlt
    · rename_i hlt
      rcases List.mem_append.1 hc with hc | hc
      · exact ih (u / 10) (by omega) c hc
      · rw [List.mem_singleton] at hc
        subst hc
        exact hd (u % 10) (by omega)
theorem itoa_head {n : Int} {c : UInt8} {rest : List UInt8} (h : Lib.itoa n = c :: rest) : c.toNat = 45 ∨ (48 ≤ c.toNat ∧ c.toNat ≤ 57) := by
  unfold Lib.itoa at h
  split at h
  · injection h with h1 _
    subst h1
    exact .inl (by decide)
  · exact .inr (dec_dig _ c (by rw [h]; simp))

/-- which values a text's first byte lets be -/
structure Heads (c : UInt8) (rest : List UInt8) (k n : Int) (t : ByteArray) : Prop where
  t116 : c.toNat = 116 → k = 2 ∧ n = 1 ∧ t = ⟨#[]⟩
  f102 : c.toNat = 102 → k = 2 ∧ n = 0 ∧ t = ⟨#[]⟩
  r64 : c.toNat = 64 → k = 5 ∧ t = ⟨#[]⟩ ∧ rest = Lib.itoa n
  e33 : c.toNat = 33 → k = 6 ∧ t = ⟨#[]⟩ ∧ rest = Lib.itoa n
  w58 : c.toNat = 58 → k = 7 ∧ n = 0 ∧ rest = t.data.toList
  b35 : c.toNat = 35 → k = 4 ∧ n = 0 ∧ flatL hexL t.data.toList = rest
  q34 : c.toNat = 34 → k = 3 ∧ n = 0 ∧ flatL escL t.data.toList ++ [34] = rest
  i1 : c.toNat ≠ 116 → c.toNat ≠ 102 → c.toNat ≠ 64 → c.toNat ≠ 33 → c.toNat ≠ 58 → c.toNat ≠ 35 → c.toNat ≠ 34 → k = 1 ∧ t = ⟨#[]⟩ ∧ c :: rest = Lib.itoa n
theorem size_zero {t : ByteArray} (h : t.size = 0) : t = ⟨#[]⟩ := by
  have : t.data.toList = [] := by rw [← List.length_eq_zero_iff]; exact h
  cases t with
  | mk d => simp at this; simp [this]
theorem heads_of {k n : Int} {t : ByteArray} {c : UInt8} {rest : List UInt8} (hm : mayB k n t = true) (hl : txtL k n t = c :: rest) : Heads c rest k n t := by
  have hk : k = 1 ∨ k = 2 ∨ k = 3 ∨ k = 4 ∨ k = 5 ∨ k = 6 ∨ k = 7 := by
    unfold mayB at hm
    by_cases a1 : k = 1 ∨ k = 6
    · omega
    by_cases a2 : k = 2
    · omega
    by_cases a3 : k = 3 ∨ k = 4
    · omega
    by_cases a4 : k = 5
    · omega
    by_cases a5 : k = 7
    · omega
    simp [a1, a2, a3, a4, a5] at hm
  rcases hk with rfl | rfl | rfl | rfl | rfl | rfl | rfl
  · have h0 : t.size = 0 := by simpa [mayB] using hm
    have hl' : Lib.itoa n = c :: rest := hl
    have hh := itoa_head hl'
    constructor
    all_goals first | (intro h; omega) | (intros; exact ⟨rfl, size_zero h0, hl'.symm⟩)
  · have h0 : t.size = 0 ∧ (n = 0 ∨ n = 1) := by simpa [mayB] using hm
    obtain ⟨h0, rfl | rfl⟩ := h0
    · have hl' : [102, 97, 108, 115, 101] = c :: rest := hl
      injection hl' with h1 h2
      subst h1
      constructor
      all_goals first | (intro h; exact absurd h (by decide)) | (intros; exact ⟨rfl, rfl, size_zero h0⟩) | (intro _ h; exact absurd rfl h)
    · have hl' : [116, 114, 117, 101] = c :: rest := hl
      injection hl' with h1 h2
      subst h1
      constructor
      all_goals first | (intro h; exact absurd h (by decide)) | (intros; exact ⟨rfl, rfl, size_zero h0⟩) | (intro h; exact absurd rfl h)
  · have h0 : n = 0 ∧ t.size ≤ 1000 := by simpa [mayB] using hm
    have hl' : 34 :: (flatL escL t.data.toList ++ [34]) = c :: rest := hl
    injection hl' with h1 h2
    subst h1
    constructor
    all_goals first | (intro h; exact absurd h (by decide)) | (intros; exact ⟨rfl, h0.1, h2⟩) | (intro _ _ _ _ _ _ h; exact absurd rfl h)
  · have h0 : n = 0 ∧ t.size ≤ 1000 := by simpa [mayB] using hm
    have hl' : 35 :: (flatL hexL t.data.toList ++ []) = c :: rest := hl
    injection hl' with h1 h2
    rw [List.append_nil] at h2
    subst h1
    constructor
    all_goals first | (intro h; exact absurd h (by decide)) | (intros; exact ⟨rfl, h0.1, h2⟩) | (intro _ _ _ _ _ h; exact absurd rfl h)
  · have h0 : t.size = 0 := by
      have : t.size = 0 ∧ (0 ≤ n ∧ n < 9007199254740992) := by simpa [mayB] using hm
      exact this.1
    have hl' : 64 :: Lib.itoa n = c :: rest := hl
    injection hl' with h1 h2
    subst h1
    constructor
    all_goals first | (intro h; exact absurd h (by decide)) | (intros; exact ⟨rfl, size_zero h0, h2.symm⟩) | (intro _ _ h; exact absurd rfl h)
  · have h0 : t.size = 0 := by simpa [mayB] using hm
    have hl' : 33 :: Lib.itoa n = c :: rest := hl
    injection hl' with h1 h2
    subst h1
    constructor
    all_goals first | (intro h; exact absurd h (by decide)) | (intros; exact ⟨rfl, size_zero h0, h2.symm⟩) | (intro _ _ _ h; exact absurd rfl h)
  · have h0 : n = 0 ∧ wordB t = true := by simpa [mayB] using hm
    have hl' : 58 :: t.data.toList = c :: rest := hl
    injection hl' with h1 h2
    subst h1
    constructor
    all_goals first | (intro h; exact absurd h (by decide)) | (intros; exact ⟨rfl, h0.1, h2.symm⟩) | (intro _ _ _ _ h; exact absurd rfl h)

theorem txt_ne {k n : Int} {t : ByteArray} (hm : mayB k n t = true) : txtL k n t ≠ [] := by
  intro e
  have hc : ∀ c rest, txtL k n t = c :: rest → False := fun c rest h => by rw [e] at h; cases h
  have hk : k = 1 ∨ k = 2 ∨ k = 3 ∨ k = 4 ∨ k = 5 ∨ k = 6 ∨ k = 7 := by
    unfold mayB at hm
    by_cases a1 : k = 1 ∨ k = 6
    · omega
    by_cases a2 : k = 2
    · omega
    by_cases a3 : k = 3 ∨ k = 4
    · omega
    by_cases a4 : k = 5
    · omega
    by_cases a5 : k = 7
    · omega
    simp [a1, a2, a3, a4, a5] at hm
  rcases hk with rfl | rfl | rfl | rfl | rfl | rfl | rfl
  · have e' : Lib.itoa n = [] := e
    have hd : ∀ u, Lib.decDigits u ≠ [] := fun u h => by
      have := Lib.nDigits_pos u
      rw [← Lib.decDigits_length, h] at this
      simp at this
    unfold Lib.itoa at e'
    split at e'
    · cases e'
    · exact hd _ e'
  · have e' : boolL (n == 1) = [] := e
    cases h : (n == 1) <;> rw [h] at e' <;> cases e'
  · exact hc 34 (flatL escL t.data.toList ++ [34]) rfl
  · exact hc 35 (flatL hexL t.data.toList ++ []) rfl
  · exact hc 64 (Lib.itoa n) rfl
  · exact hc 33 (Lib.itoa n) rfl
  · exact hc 58 t.data.toList rfl

theorem reads_none : Reads [] (.returned (.tuple #[.agg #[.int .i64 0, .int .i64 0, .string ⟨#[]⟩], .bool false])) :=
  ⟨0, 0, _, false, rfl, (fun h => by cases h), fun _ _ _ hm _ hl => absurd hl (txt_ne hm)⟩
theorem reads_t {c : UInt8} {rest : List UInt8} (hc : c.toNat = 116) : Reads (c :: rest) (.returned (.tuple #[.agg #[.int .i64 2, .int .i64 1, .string ⟨#[]⟩], .bool true])) :=
  ⟨2, 1, _, true, rfl, fun _ => ⟨by unfold inI64; omega, Nat.zero_le _⟩, fun k n t hm _ hl => by
    obtain ⟨a, b, d⟩ := (heads_of hm hl).t116 hc
    exact ⟨a.symm, b.symm, d.symm, rfl⟩⟩
theorem reads_f {c : UInt8} {rest : List UInt8} (hc : c.toNat = 102) : Reads (c :: rest) (.returned (.tuple #[.agg #[.int .i64 2, .int .i64 0, .string ⟨#[]⟩], .bool true])) :=
  ⟨2, 0, _, true, rfl, fun _ => ⟨by unfold inI64; omega, Nat.zero_le _⟩, fun k n t hm _ hl => by
    obtain ⟨a, b, d⟩ := (heads_of hm hl).f102 hc
    exact ⟨a.symm, b.symm, d.symm, rfl⟩⟩
theorem reads_ref {c : UInt8} {rest : List UInt8} {n : Int} {ok : Bool} (hc : c.toNat = 64) (h1 : ok = true → inI64 n) (h2 : ∀ x, inI64 x → rest = Lib.itoa x → n = x ∧ ok = true) : Reads (c :: rest) (.returned (.tuple #[.agg #[.int .i64 5, .int .i64 n, .string ⟨#[]⟩], .bool ok])) :=
  ⟨5, n, _, ok, rfl, fun h => ⟨h1 h, Nat.zero_le _⟩, fun k n' t hm hx hl => by
    obtain ⟨a, b, d⟩ := (heads_of hm hl).r64 hc
    obtain ⟨e1, e2⟩ := h2 n' hx d
    exact ⟨a.symm, e1, b.symm, e2⟩⟩
theorem reads_time {c : UInt8} {rest : List UInt8} {n : Int} {ok : Bool} (hc : c.toNat = 33) (h1 : ok = true → inI64 n) (h2 : ∀ x, inI64 x → rest = Lib.itoa x → n = x ∧ ok = true) : Reads (c :: rest) (.returned (.tuple #[.agg #[.int .i64 6, .int .i64 n, .string ⟨#[]⟩], .bool ok])) :=
  ⟨6, n, _, ok, rfl, fun h => ⟨h1 h, Nat.zero_le _⟩, fun k n' t hm hx hl => by
    obtain ⟨a, b, d⟩ := (heads_of hm hl).e33 hc
    obtain ⟨e1, e2⟩ := h2 n' hx d
    exact ⟨a.symm, e1, b.symm, e2⟩⟩
theorem reads_word {c : UInt8} {rest : List UInt8} {t : ByteArray} (hc : c.toNat = 58) (hr : rest = t.data.toList) (hz : t.size ≤ maxLen) : Reads (c :: rest) (.returned (.tuple #[.agg #[.int .i64 7, .int .i64 0, .string t], .bool true])) :=
  ⟨7, 0, _, true, rfl, fun _ => ⟨by unfold inI64; omega, hz⟩, fun k n' t' hm hx hl => by
    obtain ⟨a, b, d⟩ := (heads_of hm hl).w58 hc
    rw [hr] at d
    exact ⟨a.symm, b.symm, ByteArray.ext (Array.toList_inj.1 d), rfl⟩⟩
theorem reads_bytes {c : UInt8} {rest : List UInt8} {k : Int} {t : ByteArray} {ok : Bool} (hc : c.toNat = 35) (h1 : ok = true → t.size ≤ maxLen) (h2 : ∀ u, flatL hexL u = rest → k = 4 ∧ t = ⟨u.toArray⟩ ∧ ok = true) : Reads (c :: rest) (.returned (.tuple #[.agg #[.int .i64 k, .int .i64 0, .string t], .bool ok])) :=
  ⟨k, 0, _, ok, rfl, fun h => ⟨by unfold inI64; omega, h1 h⟩, fun k' n' t' hm hx hl => by
    obtain ⟨a, b, d⟩ := (heads_of hm hl).b35 hc
    obtain ⟨e1, e2, e3⟩ := h2 _ d
    exact ⟨by rw [a, e1], b.symm, by rw [e2], e3⟩⟩
theorem reads_text {c : UInt8} {rest : List UInt8} {k : Int} {t : ByteArray} {ok : Bool} (hc : c.toNat = 34) (h1 : ok = true → t.size ≤ maxLen) (h2 : ∀ u, flatL escL u ++ [34] = rest → k = 3 ∧ t = ⟨u.toArray⟩ ∧ ok = true) : Reads (c :: rest) (.returned (.tuple #[.agg #[.int .i64 k, .int .i64 0, .string t], .bool ok])) :=
  ⟨k, 0, _, ok, rfl, fun h => ⟨by unfold inI64; omega, h1 h⟩, fun k' n' t' hm hx hl => by
    obtain ⟨a, b, d⟩ := (heads_of hm hl).q34 hc
    obtain ⟨e1, e2, e3⟩ := h2 _ d
    exact ⟨by rw [a, e1], b.symm, by rw [e2], e3⟩⟩
theorem reads_int {c : UInt8} {rest : List UInt8} {n : Int} {ok : Bool} (c1 : c.toNat ≠ 116) (c2 : c.toNat ≠ 102) (c3 : c.toNat ≠ 64) (c4 : c.toNat ≠ 33) (c5 : c.toNat ≠ 58) (c6 : c.toNat ≠ 35) (c7 : c.toNat ≠ 34)
    (h1 : ok = true → inI64 n) (h2 : ∀ x, inI64 x → c :: rest = Lib.itoa x → n = x ∧ ok = true) : Reads (c :: rest) (.returned (.tuple #[.agg #[.int .i64 1, .int .i64 n, .string ⟨#[]⟩], .bool ok])) :=
  ⟨1, n, _, ok, rfl, fun h => ⟨h1 h, Nat.zero_le _⟩, fun k n' t hm hx hl => by
    obtain ⟨a, b, d⟩ := (heads_of hm hl).i1 c1 c2 c3 c4 c5 c6 c7
    obtain ⟨e1, e2⟩ := h2 n' hx d
    exact ⟨a.symm, e1, b.symm, e2⟩⟩
theorem is_n {c : UInt8} {n : Int} (h : ((c.toNat : Int) == n) = true) : (c.toNat : Int) = n := by simpa using h
theorem is_not {c : UInt8} {n : Int} (h : ((c.toNat : Int) == n) = false) : (c.toNat : Int) ≠ n := by simpa using h

theorem bytes_there (x : ByteArray) (W : World) : ∃ v W1, (convert 9 40 (.string x)).run Tryd.prog W = .ok v W1 ∧ (convert 40 9 v).run Tryd.prog W1 = .ok (.string x) W1 ∧ Below W.heap.size W W1 := by
  refine ⟨_, _, Lib.run_convert_string_bytes W _ _ 5 x (u := .string) Tryd.underlying9 Tryd.underlying40 Tryd.underlying5, ?_, Lib.bytesWorld_below _ _ _⟩
  have h := run_convert_bytes_back (P := Tryd.prog) (Lib.bytesWorld W 5 x) 40 9 5 ⟨W.heap.size, 0, none⟩ (grownCap W x.size 0 5) x.data.toList Tryd.underlying40 Tryd.underlying5 Tryd.underlying9 (fun j hj => by
    have hj' : j < x.size := by simpa using hj
    have := Lib.bytesWorld_cell W 5 x j hj'
    have ha : (⟨W.heap.size, 0, none⟩ : Addr).add j = ⟨W.heap.size, j, none⟩ := by rw [Lib.add_plain, Nat.zero_add]
    rw [ha, this]
    simp [List.getD, hj'])
  have hl : x.data.toList.length = x.size := Array.length_toList
  rw [hl] at h
  exact h

theorem res_out {w W : World} {k n : Int} {t : ByteArray} (h : Res w W) : Below w.heap.size w (((W.setCell ⟨w.heap.size, 0, none⟩ (.int .i64 k)).setCell ⟨w.heap.size, 1, none⟩ (.int .i64 n)).setCell ⟨w.heap.size, 2, none⟩ (.string t)) :=
  ((h.low.setCell (p := ⟨w.heap.size, 0, none⟩) (Nat.le_refl _) _).setCell (p := ⟨w.heap.size, 1, none⟩) (Nat.le_refl _) _).setCell (p := ⟨w.heap.size, 2, none⟩) (Nat.le_refl _) _

set_option maxRecDepth 100000 in
set_option maxHeartbeats 4000000 in
theorem read_any (s : ByteArray) (w : World) (hs : s.size ≤ 4000) (herr : Errs w) :
    Calls Tryd.prog 21 #[.string s] w fun e w' => Reads s.data.toList e ∧ Below w.heap.size w w' := by
  have HE := Lib.hid herr
  have r0 := res_new w 23
  clear herr
  by_cases h0 : s.size = 0
  · have he := emp_yes h0
    have hl : Hid (s.data.toList = []) := by rw [← ByteArray.toList_eq]; exact he
    have e0 := r0.c0
    have e1 := r0.c1
    have e2 := r0.c2
    have f0 := r0.f0
    have f1 := r0.f1
    have f2 := r0.f2
    have HR := Lib.hid r0.low
    clear r0
    go_enter Tryd.func21, Tryd.ntmps21
    go_wp2
    refine bodyPost_ret (v := .tuple #[.agg #[.int .i64 0, .int .i64 0, .string ⟨#[]⟩], .bool false]) ?_ rfl ⟨by rw [hl.out]; exact reads_none, HR.out⟩
    rw [results_cell_tmp rfl]; go_simp
  · have hp : 0 < s.size := by omega
    have he := emp_no hp
    have hn := emp_ne hp
    have hp1 : (1 : Int) ≤ (s.size : Int) := by omega
    have HL : Hid (s.data.toList = s[0] :: (s.extract 1 s.size).data.toList) := by
      show s.data.toList = _
      rw [drop_to]; have := drop_at s 0 hp; simpa using this
    have HZ : Hid ((s.extract 1 s.size).size ≤ 4000) := by
      show _ ≤ _
      rw [drop_to_size]; omega
    obtain ⟨bv, W1, hcv, hcb, hB1⟩ := bytes_there (s.extract 1 s.size) (w.alloc (.cells #[.int .i64 0, .int .i64 0, .string ⟨#[]⟩] 23))
    have r1 : Res w W1 := r0.next hB1 (by simp)
    have e0 := r1.c0
    have e1 := r1.c1
    have e2 := r1.c2
    have f0 := r1.f0
    have f1 := r1.f1
    have f2 := r1.f2
    have R0 := Lib.hid r0
    have R1 := Lib.hid r1
    clear r0 r1 hB1
    go_enter Tryd.func21, Tryd.ntmps21
    go_wp2_with fail
    · refine bodyPost_ret (v := .tuple #[.agg #[.int .i64 2, .int .i64 1, .string ⟨#[]⟩], .bool true]) ?_ rfl ⟨?_, ?_⟩
      · rw [results_cell_tmp rfl]; go_simp
      · rw [HL.out]; exact reads_t (by have := is_n (n := 116) ‹_›; omega)
      · exact (Below.refl _ _).alloc (Nat.le_refl _) _
    · refine bodyPost_ret (v := .tuple #[.agg #[.int .i64 2, .int .i64 0, .string ⟨#[]⟩], .bool true]) ?_ rfl ⟨?_, ?_⟩
      · rw [results_cell_tmp rfl]; go_simp
      · rw [HL.out]; exact reads_f (by have := is_n (n := 102) ‹_›; omega)
      · exact (Below.refl _ _).alloc (Nat.le_refl _) _
    · refine (readNumber_any 5 _ _ HZ.out (errs_below HE.out R0.out.low)).mono ?_
      rintro e w2 ⟨⟨n, ok, rfl, hq1, hq2⟩, hb2⟩
      have HQ1 := Lib.hid hq1
      have HQ2 := Lib.hid hq2
      have hR2 : Res w w2 := R0.out.next hb2 (by simp)
      clear hq1 hq2 hb2 e0 e1 e2 f0 f1 f2 hcv hcb
      have e0 := hR2.c0
      have e1 := hR2.c1
      have e2 := hR2.c2
      have f0 := hR2.f0
      have f1 := hR2.f1
      have f2 := hR2.f2
      have R2 := Lib.hid hR2
      clear hR2
      go_wp2
      refine bodyPost_ret (v := .tuple #[.agg #[.int .i64 5, .int .i64 n, .string ⟨#[]⟩], .bool ok]) ?_ rfl ⟨?_, res_out R2.out⟩
      · rw [results_cell_tmp rfl]; go_simp
      · rw [HL.out]; exact reads_ref (by have := is_n (n := 64) ‹_›; omega) HQ1.out HQ2.out
    · refine (readNumber_any 6 _ _ HZ.out (errs_below HE.out R0.out.low)).mono ?_
      rintro e w2 ⟨⟨n, ok, rfl, hq1, hq2⟩, hb2⟩
      have HQ1 := Lib.hid hq1
      have HQ2 := Lib.hid hq2
      have hR2 : Res w w2 := R0.out.next hb2 (by simp)
      clear hq1 hq2 hb2 e0 e1 e2 f0 f1 f2 hcv hcb
      have e0 := hR2.c0
      have e1 := hR2.c1
      have e2 := hR2.c2
      have f0 := hR2.f0
      have f1 := hR2.f1
      have f2 := hR2.f2
      have R2 := Lib.hid hR2
      clear hR2
      go_wp2
      refine bodyPost_ret (v := .tuple #[.agg #[.int .i64 6, .int .i64 n, .string ⟨#[]⟩], .bool ok]) ?_ rfl ⟨?_, res_out R2.out⟩
      · rw [results_cell_tmp rfl]; go_simp
      · rw [HL.out]; exact reads_time (by have := is_n (n := 33) ‹_›; omega) HQ1.out HQ2.out
    · have hq58 := is_n (c := s[0]) (n := 58) ‹_›
      refine bodyPost_ret (v := .tuple #[.agg #[.int .i64 7, .int .i64 0, .string (s.extract 1 s.size)], .bool true]) ?_ rfl ⟨?_, res_out R1.out⟩
      · rw [results_cell_tmp rfl]; go_simp
      · rw [HL.out]; exact reads_word (by omega) rfl (by have := HZ.out; unfold maxLen; omega)
    · refine (readBytes_any _ _ HZ.out).mono ?_
      rintro e w2 ⟨⟨k, t, ok, rfl, hq1, hq2⟩, hb2⟩
      have HQ1 := Lib.hid hq1
      have HQ2 := Lib.hid hq2
      have hR2 : Res w w2 := R0.out.next hb2 (by simp)
      clear hq1 hq2 hb2 e0 e1 e2 f0 f1 f2 hcv hcb
      have e0 := hR2.c0
      have e1 := hR2.c1
      have e2 := hR2.c2
      have f0 := hR2.f0
      have f1 := hR2.f1
      have f2 := hR2.f2
      have R2 := Lib.hid hR2
      clear hR2
      go_wp2
      refine bodyPost_ret (v := .tuple #[.agg #[.int .i64 k, .int .i64 0, .string t], .bool ok]) ?_ rfl ⟨?_, res_out R2.out⟩
      · rw [results_cell_tmp rfl]; go_simp
      · rw [HL.out]; exact reads_bytes (by have := is_n (n := 35) ‹_›; omega) HQ1.out HQ2.out
    · refine (readText_any _ _ HZ.out).mono ?_
      rintro e w2 ⟨⟨k, t, ok, rfl, hq1, hq2⟩, hb2⟩
      have HQ1 := Lib.hid hq1
      have HQ2 := Lib.hid hq2
      have hR2 : Res w w2 := R0.out.next hb2 (by simp)
      clear hq1 hq2 hb2 e0 e1 e2 f0 f1 f2 hcv hcb
      have e0 := hR2.c0
      have e1 := hR2.c1
      have e2 := hR2.c2
      have f0 := hR2.f0
      have f1 := hR2.f1
      have f2 := hR2.f2
      have R2 := Lib.hid hR2
      clear hR2
      go_wp2
      refine bodyPost_ret (v := .tuple #[.agg #[.int .i64 k, .int .i64 0, .string t], .bool ok]) ?_ rfl ⟨?_, res_out R2.out⟩
      · rw [results_cell_tmp rfl]; go_simp
      · rw [HL.out]; exact reads_text (by have := is_n (n := 34) ‹_›; omega) HQ1.out HQ2.out
    · have n1 := is_not (c := s[0]) (n := 116) ‹_›
      have n2 := is_not (c := s[0]) (n := 102) ‹_›
      have n3 := is_not (c := s[0]) (n := 64) ‹_›
      have n4 := is_not (c := s[0]) (n := 33) ‹_›
      have n5 := is_not (c := s[0]) (n := 58) ‹_›
      have n6 := is_not (c := s[0]) (n := 35) ‹_›
      have n7 := is_not (c := s[0]) (n := 34) ‹_›
      have HN : Hid (s[0].toNat ≠ 116 ∧ s[0].toNat ≠ 102 ∧ s[0].toNat ≠ 64 ∧ s[0].toNat ≠ 33 ∧ s[0].toNat ≠ 58 ∧ s[0].toNat ≠ 35 ∧ s[0].toNat ≠ 34) := ⟨by omega, by omega, by omega, by omega, by omega, by omega, by omega⟩
      clear n1 n2 n3 n4 n5 n6 n7
      refine (readNumber_any 1 _ _ hs (errs_below HE.out R0.out.low)).mono ?_
      rintro e w2 ⟨⟨n, ok, rfl, hq1, hq2⟩, hb2⟩
      rw [HL.out] at hq2
      have HQ1 := Lib.hid hq1
      have HQ2 := Lib.hid hq2
      have hR2 : Res w w2 := R0.out.next hb2 (by simp)
      clear hq1 hq2 hb2 e0 e1 e2 f0 f1 f2 hcv hcb
      have e0 := hR2.c0
      have e1 := hR2.c1
      have e2 := hR2.c2
      have f0 := hR2.f0
      have f1 := hR2.f1
      have f2 := hR2.f2
      have R2 := Lib.hid hR2
      clear hR2
      go_wp2
      refine bodyPost_ret (v := .tuple #[.agg #[.int .i64 1, .int .i64 n, .string ⟨#[]⟩], .bool ok]) ?_ rfl ⟨?_, res_out R2.out⟩
      · rw [results_cell_tmp rfl]; go_simp
      · rw [HL.out]
        obtain ⟨c1, c2, c3, c4, c5, c6, c7⟩ := HN.out
        exact reads_int c1 c2 c3 c4 c5 c6 c7 HQ1.out HQ2.out

end Go.Proofs.YtpnjolacmkcofaaDoor
