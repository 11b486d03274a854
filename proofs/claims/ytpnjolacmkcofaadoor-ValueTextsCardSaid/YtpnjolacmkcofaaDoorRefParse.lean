/-
  CONTRACT of the document's answer: Parse.
-/
import Derived.Test.YtpnjolacmkcofaaDoorRaw
namespace Go.Proofs.YtpnjolacmkcofaaDoor
open Go.RowKit Go.Shelf

/-- a block of three cells, known whole -/
def VBlk (W : World) (b : Nat) (x y z : Value) : Prop := W.heap[b]? = some (.cells #[x, y, z] 23 (0, 0))
theorem VBlk.c0 {W : World} {b : Nat} {x y z : Value} (h : VBlk W b x y z) : W.cell? ⟨b, 0, none⟩ = some x := by unfold VBlk at h; simp [World.cell?, h]
theorem VBlk.c1 {W : World} {b : Nat} {x y z : Value} (h : VBlk W b x y z) : W.cell? ⟨b, 1, none⟩ = some y := by unfold VBlk at h; simp [World.cell?, h]
theorem VBlk.c2 {W : World} {b : Nat} {x y z : Value} (h : VBlk W b x y z) : W.cell? ⟨b, 2, none⟩ = some z := by unfold VBlk at h; simp [World.cell?, h]
theorem VBlk.f {W : World} {b : Nat} {x y z : Value} (h : VBlk W b x y z) (j : Nat) : W.frozen? ⟨b, j, none⟩ = false := by unfold VBlk at h; simp [World.frozen?, h]
theorem VBlk.lt {W : World} {b : Nat} {x y z : Value} (h : VBlk W b x y z) : b < W.heap.size := (Array.getElem?_eq_some_iff.1 h).1
theorem VBlk.next {W W' : World} {b B : Nat} {x y z : Value} (h : VBlk W b x y z) (hb : Below B W W') (hB : b < B) : VBlk W' b x y z := (hb.block b hB).trans h
theorem VBlk.far {W : World} {b : Nat} {x y z : Value} (h : VBlk W b x y z) {p : Addr} (hp : b ≠ p.block) (u : Value) : VBlk (W.setCell p u) b x y z := (Below.heap_setCell W p u b hp).trans h
def set3 (W : World) (b : Nat) (x y z : Value) : World := ((W.setCell ⟨b, 0, none⟩ x).setCell ⟨b, 1, none⟩ y).setCell ⟨b, 2, none⟩ z
theorem VBlk.set {W : World} {b : Nat} {x y z : Value} (h : VBlk W b x y z) (x' y' z' : Value) : VBlk (set3 W b x' y' z') b x' y' z' := by
  unfold VBlk at h ⊢
  simp [set3, World.setCell, Array.getElem?_modify, h]
theorem size_set3 (W : World) (b : Nat) (x y z : Value) : (set3 W b x y z).heap.size = W.heap.size := by simp [set3, World.setCell]

/-- the result's own block, v's block, and all that lay before -/
structure St (w W : World) (x y z : Value) : Prop where
  r : VBlk W w.heap.size (.int .i64 0) (.int .i64 0) (.string ⟨#[]⟩)
  v : VBlk W (w.heap.size + 1) x y z
  low : Below w.heap.size w W
  size : w.heap.size + 2 ≤ W.heap.size
theorem St.next {w W W' : World} {x y z : Value} (h : St w W x y z) {B : Nat} (hb : Below B W W') (hB : w.heap.size + 2 ≤ B) : St w W' x y z :=
  ⟨h.r.next hb (by omega), h.v.next hb (by omega), h.low.trans (hb.mono (by omega)), Nat.le_trans h.size hb.size⟩
theorem St.set {w W : World} {x y z : Value} (h : St w W x y z) (x' y' z' : Value) : St w (set3 W (w.heap.size + 1) x' y' z') x' y' z' :=
  ⟨((h.r.far (p := ⟨w.heap.size + 1, 0, none⟩) (by show w.heap.size ≠ w.heap.size + 1; omega) _).far (p := ⟨w.heap.size + 1, 1, none⟩) (by show w.heap.size ≠ w.heap.size + 1; omega) _).far (p := ⟨w.heap.size + 1, 2, none⟩) (by show w.heap.size ≠ w.heap.size + 1; omega) _,
    h.v.set x' y' z', ((h.low.setCell (p := ⟨w.heap.size + 1, 0, none⟩) (by show w.heap.size ≤ w.heap.size + 1; omega) _).setCell (p := ⟨w.heap.size + 1, 1, none⟩) (by show w.heap.size ≤ w.heap.size + 1; omega) _).setCell (p := ⟨w.heap.size + 1, 2, none⟩) (by show w.heap.size ≤ w.heap.size + 1; omega) _,
    by rw [size_set3]; exact h.size⟩
theorem st_new (w : World) (x y z : Value) : St w ((w.alloc (.cells #[.int .i64 0, .int .i64 0, .string ⟨#[]⟩] 23)).alloc (.cells #[x, y, z] 23)) x y z := by
  have h1 := heap_alloc_new (w.alloc (.cells #[.int .i64 0, .int .i64 0, .string ⟨#[]⟩] 23)) (.cells #[x, y, z] 23)
  rw [World.size_alloc] at h1
  exact ⟨(Below.heap_alloc _ _ _ (by simp)).trans (heap_alloc_new w _), h1, ((Below.refl _ _).alloc (Nat.le_refl _) _).alloc (by simp) _, by simp⟩
theorem St.out {w W : World} {x y z : Value} (h : St w W x y z) (x' y' z' : Value) : Below w.heap.size w (set3 W w.heap.size x' y' z') :=
  ((h.low.setCell (p := ⟨w.heap.size, 0, none⟩) (Nat.le_refl _) _).setCell (p := ⟨w.heap.size, 1, none⟩) (Nat.le_refl _) _).setCell (p := ⟨w.heap.size, 2, none⟩) (Nat.le_refl _) _

theorem parse_hit {l : List UInt8} {k n : Int} {t : ByteArray} (hm : mayB k n t = true) (hn : inI64 n) (ht : t.size ≤ maxLen) (hl : txtL k n t = l) (hu : ∀ (k' n' : Int) (t' : ByteArray), mayB k' n' t' = true → inI64 n' → txtL k' n' t' = l → k = k' ∧ n = n' ∧ t = t') :
    ParseEnds l (.returned (.tuple #[.agg #[.int .i64 k, .int .i64 n, .string t], .int .i64 0])) := .inl ⟨k, n, t, rfl, hm, hn, ht, hl, hu⟩
theorem head_ne {s : ByteArray} (hp : 0 < s.size) {c : UInt8} {r : List UInt8} (h : s[0] ≠ c) : s.data.toList ≠ c :: r := by
  have hd := drop_at s 0 hp
  rw [List.drop_zero] at hd
  rw [hd]
  intro e
  injection e with e _
  exact h e
theorem cons_of {s : ByteArray} (hp : 0 < s.size) : s.data.toList = s[0] :: (s.extract 1 s.size).data.toList := by
  have hd := drop_at s 0 hp
  rw [List.drop_zero] at hd
  rw [drop_to]; exact hd

set_option maxRecDepth 100000 in
set_option maxHeartbeats 4000000 in
theorem refParse_ref (s : ByteArray) (w : World) (hs : s.size ≤ 5000) (hp : 0 < s.size) (hc : s[0].toNat = 64) :
    Calls Tryd.prog 10 #[.string s] w fun e w' => ParseEnds s.data.toList e ∧ Below w.heap.size w w' := by
  have hl := cons_of hp
  have st0 := st_new w (.int .i64 0) (.int .i64 0) (.string ⟨#[]⟩)
  obtain ⟨d, hd⟩ : ∃ d : ByteArray, s.extract 1 s.size = d := ⟨_, rfl⟩
  have hds : d.size = s.size - 1 := by rw [← hd, drop_to_size]
  have hp' : (0 : Int) < (s.size : Int) := by omega
  have hp1 : (1 : Int) ≤ (s.size : Int) := by omega
  have q1 : (s.toList == [116, 114, 117, 101]) = false := by rw [beq_eq_false_iff_ne, ByteArray.toList_eq]; exact head_ne hp (fun e => by rw [e] at hc; exact absurd hc (by decide))
  have q2 : (s.toList == [102, 97, 108, 115, 101]) = false := by rw [beq_eq_false_iff_ne, ByteArray.toList_eq]; exact head_ne hp (fun e => by rw [e] at hc; exact absurd hc (by decide))
  have t64 : ((s[0].toNat : Int) == 64) = true := by rw [hc]; rfl
  rw [hd] at hl
  have HL := Lib.hid hl
  have HC := Lib.hid hc
  have ST0 := Lib.hid st0
  clear hl hc st0
  go_enter Tryd.func10, Tryd.ntmps10
  go_wp2_with fail
  clear hd q1 q2 t64
  refine (refNumber_any d _ (by omega)).mono ?_
  rintro e w1 ⟨⟨n, ok, rfl, hn, hy, hu⟩, hb1⟩
  have HN := Lib.hid hn
  have HY := Lib.hid hy
  have HU := Lib.hid hu
  have S1 := Lib.hid (ST0.out.next hb1 (by simp))
  clear hn hy hu hb1
  cases ok
  · have HNO : Hid (∀ (k n : Int) (t : ByteArray), mayB k n t = true → inI64 n → txtL k n t ≠ s.data.toList) := fun k' n' t' a b c => by
      obtain ⟨_, _, h3⟩ := (heads_of a (c.trans HL.out)).r64 HC.out
      have := (HU.out n' b h3).2
      cases this
    have e0 := S1.out.r.c0
    have e1 := S1.out.r.c1
    have e2 := S1.out.r.c2
    have f0 := S1.out.r.f 0
    have f1 := S1.out.r.f 1
    have f2 := S1.out.r.f 2
    have g0 := S1.out.v.c0
    have g1 := S1.out.v.c1
    have g2 := S1.out.v.c2
    have h0 := S1.out.v.f 0
    have h1 := S1.out.v.f 1
    have h2 := S1.out.v.f 2
    go_wp2
    refine bodyPost_ret (v := .tuple #[.agg #[.int .i64 0, .int .i64 0, .string ⟨#[]⟩], .int .i64 11]) ?_ rfl ⟨parse_no HNO.out, ?_⟩
    · rw [results_cell_tmp rfl]; go_simp
    · exact St.out (S1.out.set _ _ _) _ _ _
  · have HT : Hid (txtL 5 n ⟨#[]⟩ = s.data.toList) := by
      show _ = _
      rw [HL.out, HY.out rfl]
      show (64 : UInt8) :: Lib.itoa n = _
      have : s[0] = 64 := UInt8.toNat_inj.1 HC.out
      rw [this]
    have HQ : Hid (∀ (k' n' : Int) (t' : ByteArray), mayB k' n' t' = true → inI64 n' → txtL k' n' t' = s.data.toList → 5 = k' ∧ n = n' ∧ (⟨#[]⟩ : ByteArray) = t') := fun k' n' t' a b c => by
      obtain ⟨h1, h2, h3⟩ := (heads_of a (c.trans HL.out)).r64 HC.out
      exact ⟨h1.symm, (HU.out n' b h3).1, h2.symm⟩
    have e0 := S1.out.r.c0
    have e1 := S1.out.r.c1
    have e2 := S1.out.r.c2
    have f0 := S1.out.r.f 0
    have f1 := S1.out.r.f 1
    have f2 := S1.out.r.f 2
    have g0 := S1.out.v.c0
    have g1 := S1.out.v.c1
    have g2 := S1.out.v.c2
    have h0 := S1.out.v.f 0
    have h1 := S1.out.v.f 1
    have h2 := S1.out.v.f 2
    go_wp2_with fail
    refine (refMay_any 5 n ⟨#[]⟩ _ (by decide)).mono ?_
    rintro e w3 ⟨rfl, hb3⟩
    have S3 := Lib.hid ((S1.out.set (.int .i64 5) (.int .i64 n) (.string ⟨#[]⟩)).next hb3 (by have h9 := S1.out.size; simpa [World.setCell] using h9))
    clear hb3 e0 e1 e2 f0 f1 f2 g0 g1 g2 h0 h1 h2
    cases hm : mayB 5 n ⟨#[]⟩
    · have HNO : Hid (∀ (k n : Int) (t : ByteArray), mayB k n t = true → inI64 n → txtL k n t ≠ s.data.toList) := fun k' n' t' a b c => by
        obtain ⟨rfl, rfl, rfl⟩ := HQ.out k' n' t' a b c
        rw [hm] at a; cases a
      clear hm
      have e0 := S3.out.r.c0
      have e1 := S3.out.r.c1
      have e2 := S3.out.r.c2
      have f0 := S3.out.r.f 0
      have f1 := S3.out.r.f 1
      have f2 := S3.out.r.f 2
      have g0 := S3.out.v.c0
      have g1 := S3.out.v.c1
      have g2 := S3.out.v.c2
      have h0 := S3.out.v.f 0
      have h1 := S3.out.v.f 1
      have h2 := S3.out.v.f 2
      go_wp2
      refine bodyPost_ret (v := .tuple #[.agg #[.int .i64 0, .int .i64 0, .string ⟨#[]⟩], .int .i64 11]) ?_ rfl ⟨parse_no HNO.out, ?_⟩
      · rw [results_cell_tmp rfl]; go_simp
      · exact St.out S3.out _ _ _
    · have HM := Lib.hid hm
      clear hm
      have e0 := S3.out.r.c0
      have e1 := S3.out.r.c1
      have e2 := S3.out.r.c2
      have f0 := S3.out.r.f 0
      have f1 := S3.out.r.f 1
      have f2 := S3.out.r.f 2
      have g0 := S3.out.v.c0
      have g1 := S3.out.v.c1
      have g2 := S3.out.v.c2
      have h0 := S3.out.v.f 0
      have h1 := S3.out.v.f 1
      have h2 := S3.out.v.f 2
      go_wp2
      refine bodyPost_ret (v := .tuple #[.agg #[.int .i64 5, .int .i64 n, .string ⟨#[]⟩], .int .i64 0]) ?_ rfl ⟨parse_hit HM.out HN.out (by decide) HT.out HQ.out, ?_⟩
      · rw [results_cell_tmp rfl]; go_simp
      · exact St.out S3.out _ _ _

set_option maxRecDepth 100000 in
set_option maxHeartbeats 4000000 in
theorem refParse_time (s : ByteArray) (w : World) (hs : s.size ≤ 5000) (hp : 0 < s.size) (hc : s[0].toNat = 33) :
    Calls Tryd.prog 10 #[.string s] w fun e w' => ParseEnds s.data.toList e ∧ Below w.heap.size w w' := by
  have hl := cons_of hp
  have st0 := st_new w (.int .i64 0) (.int .i64 0) (.string ⟨#[]⟩)
  obtain ⟨d, hd⟩ : ∃ d : ByteArray, s.extract 1 s.size = d := ⟨_, rfl⟩
  have hds : d.size = s.size - 1 := by rw [← hd, drop_to_size]
  have hp' : (0 : Int) < (s.size : Int) := by omega
  have hp1 : (1 : Int) ≤ (s.size : Int) := by omega
  have q1 : (s.toList == [116, 114, 117, 101]) = false := by rw [beq_eq_false_iff_ne, ByteArray.toList_eq]; exact head_ne hp (fun e => by rw [e] at hc; exact absurd hc (by decide))
  have q2 : (s.toList == [102, 97, 108, 115, 101]) = false := by rw [beq_eq_false_iff_ne, ByteArray.toList_eq]; exact head_ne hp (fun e => by rw [e] at hc; exact absurd hc (by decide))
  have t64 : ((s[0].toNat : Int) == 64) = false := by rw [hc]; rfl
  have t33 : ((s[0].toNat : Int) == 33) = true := by rw [hc]; rfl
  rw [hd] at hl
  have HL := Lib.hid hl
  have HC := Lib.hid hc
  have ST0 := Lib.hid st0
  clear hl hc st0
  go_enter Tryd.func10, Tryd.ntmps10
  go_wp2_with fail
  clear hd q1 q2 t64 t33
  refine (refNumber_any d _ (by omega)).mono ?_
  rintro e w1 ⟨⟨n, ok, rfl, hn, hy, hu⟩, hb1⟩
  have HN := Lib.hid hn
  have HY := Lib.hid hy
  have HU := Lib.hid hu
  have S1 := Lib.hid (ST0.out.next hb1 (by simp))
  clear hn hy hu hb1
  cases ok
  · have HNO : Hid (∀ (k n : Int) (t : ByteArray), mayB k n t = true → inI64 n → txtL k n t ≠ s.data.toList) := fun k' n' t' a b c => by
      obtain ⟨_, _, h3⟩ := (heads_of a (c.trans HL.out)).e33 HC.out
      have := (HU.out n' b h3).2
      cases this
    have e0 := S1.out.r.c0
    have e1 := S1.out.r.c1
    have e2 := S1.out.r.c2
    have f0 := S1.out.r.f 0
    have f1 := S1.out.r.f 1
    have f2 := S1.out.r.f 2
    have g0 := S1.out.v.c0
    have g1 := S1.out.v.c1
    have g2 := S1.out.v.c2
    have h0 := S1.out.v.f 0
    have h1 := S1.out.v.f 1
    have h2 := S1.out.v.f 2
    go_wp2
    refine bodyPost_ret (v := .tuple #[.agg #[.int .i64 0, .int .i64 0, .string ⟨#[]⟩], .int .i64 11]) ?_ rfl ⟨parse_no HNO.out, ?_⟩
    · rw [results_cell_tmp rfl]; go_simp
    · exact St.out (S1.out.set _ _ _) _ _ _
  · have HT : Hid (txtL 6 n ⟨#[]⟩ = s.data.toList) := by
      show _ = _
      rw [HL.out, HY.out rfl]
      show (33 : UInt8) :: Lib.itoa n = _
      have : s[0] = 33 := UInt8.toNat_inj.1 HC.out
      rw [this]
    have HQ : Hid (∀ (k' n' : Int) (t' : ByteArray), mayB k' n' t' = true → inI64 n' → txtL k' n' t' = s.data.toList → 6 = k' ∧ n = n' ∧ (⟨#[]⟩ : ByteArray) = t') := fun k' n' t' a b c => by
      obtain ⟨h1, h2, h3⟩ := (heads_of a (c.trans HL.out)).e33 HC.out
      exact ⟨h1.symm, (HU.out n' b h3).1, h2.symm⟩
    have e0 := S1.out.r.c0
    have e1 := S1.out.r.c1
    have e2 := S1.out.r.c2
    have f0 := S1.out.r.f 0
    have f1 := S1.out.r.f 1
    have f2 := S1.out.r.f 2
    have g0 := S1.out.v.c0
    have g1 := S1.out.v.c1
    have g2 := S1.out.v.c2
    have h0 := S1.out.v.f 0
    have h1 := S1.out.v.f 1
    have h2 := S1.out.v.f 2
    go_wp2_with fail
    refine (refMay_any 6 n ⟨#[]⟩ _ (by decide)).mono ?_
    rintro e w3 ⟨rfl, hb3⟩
    have S3 := Lib.hid ((S1.out.set (.int .i64 6) (.int .i64 n) (.string ⟨#[]⟩)).next hb3 (by have h9 := S1.out.size; simpa [World.setCell] using h9))
    clear hb3 e0 e1 e2 f0 f1 f2 g0 g1 g2 h0 h1 h2
    cases hm : mayB 6 n ⟨#[]⟩
    · have HNO : Hid (∀ (k n : Int) (t : ByteArray), mayB k n t = true → inI64 n → txtL k n t ≠ s.data.toList) := fun k' n' t' a b c => by
        obtain ⟨rfl, rfl, rfl⟩ := HQ.out k' n' t' a b c
        rw [hm] at a; cases a
      clear hm
      have e0 := S3.out.r.c0
      have e1 := S3.out.r.c1
      have e2 := S3.out.r.c2
      have f0 := S3.out.r.f 0
      have f1 := S3.out.r.f 1
      have f2 := S3.out.r.f 2
      have g0 := S3.out.v.c0
      have g1 := S3.out.v.c1
      have g2 := S3.out.v.c2
      have h0 := S3.out.v.f 0
      have h1 := S3.out.v.f 1
      have h2 := S3.out.v.f 2
      go_wp2
      refine bodyPost_ret (v := .tuple #[.agg #[.int .i64 0, .int .i64 0, .string ⟨#[]⟩], .int .i64 11]) ?_ rfl ⟨parse_no HNO.out, ?_⟩
      · rw [results_cell_tmp rfl]; go_simp
      · exact St.out S3.out _ _ _
    · have HM := Lib.hid hm
      clear hm
      have e0 := S3.out.r.c0
      have e1 := S3.out.r.c1
      have e2 := S3.out.r.c2
      have f0 := S3.out.r.f 0
      have f1 := S3.out.r.f 1
      have f2 := S3.out.r.f 2
      have g0 := S3.out.v.c0
      have g1 := S3.out.v.c1
      have g2 := S3.out.v.c2
      have h0 := S3.out.v.f 0
      have h1 := S3.out.v.f 1
      have h2 := S3.out.v.f 2
      go_wp2
      refine bodyPost_ret (v := .tuple #[.agg #[.int .i64 6, .int .i64 n, .string ⟨#[]⟩], .int .i64 0]) ?_ rfl ⟨parse_hit HM.out HN.out (by decide) HT.out HQ.out, ?_⟩
      · rw [results_cell_tmp rfl]; go_simp
      · exact St.out S3.out _ _ _

set_option maxRecDepth 100000 in
set_option maxHeartbeats 4000000 in
theorem refParse_word (s : ByteArray) (w : World) (hs : s.size ≤ 5000) (hp : 0 < s.size) (hc : s[0].toNat = 58) :
    Calls Tryd.prog 10 #[.string s] w fun e w' => ParseEnds s.data.toList e ∧ Below w.heap.size w w' := by
  have hl := cons_of hp
  have st0 := st_new w (.int .i64 0) (.int .i64 0) (.string ⟨#[]⟩)
  have hp' : (0 : Int) < (s.size : Int) := by omega
  obtain ⟨d, hd⟩ : ∃ d : ByteArray, s.extract 1 s.size = d := ⟨_, rfl⟩
  have hds : d.size = s.size - 1 := by rw [← hd, drop_to_size]
  have hp1 : (1 : Int) ≤ (s.size : Int) := by omega
  rw [hd] at hl
  have q1 : (s.toList == [116, 114, 117, 101]) = false := by rw [beq_eq_false_iff_ne, ByteArray.toList_eq]; exact head_ne hp (fun e => by rw [e] at hc; exact absurd hc (by decide))
  have q2 : (s.toList == [102, 97, 108, 115, 101]) = false := by rw [beq_eq_false_iff_ne, ByteArray.toList_eq]; exact head_ne hp (fun e => by rw [e] at hc; exact absurd hc (by decide))
  have t64 : ((s[0].toNat : Int) == 64) = false := by rw [hc]; rfl
  have t33 : ((s[0].toNat : Int) == 33) = false := by rw [hc]; rfl
  have t58 : ((s[0].toNat : Int) == 58) = true := by rw [hc]; rfl
  have HL := Lib.hid hl
  have HC := Lib.hid hc
  clear hl hc st0
  go_enter Tryd.func10, Tryd.ntmps10
  have hdm : d.size ≤ maxLen := by unfold maxLen; omega
  have HDM := Lib.hid hdm
  have HT : Hid (txtL 7 0 d = s.data.toList) := by
    show _ = _
    rw [HL.out]
    show (58 : UInt8) :: d.data.toList = _
    have : s[0] = 58 := UInt8.toNat_inj.1 HC.out
    rw [this]
  have HQ : Hid (∀ (k' n' : Int) (t' : ByteArray), mayB k' n' t' = true → inI64 n' → txtL k' n' t' = s.data.toList → 7 = k' ∧ 0 = n' ∧ d = t') := fun k' n' t' a b c => by
    obtain ⟨h1, h2, h3⟩ := (heads_of a (c.trans HL.out)).w58 HC.out
    exact ⟨h1.symm, h2.symm, ByteArray.ext (Array.toList_inj.1 h3)⟩
  clear hdm
  go_wp2_with fail
  clear hd q1 q2 t64 t33 t58
  refine (refMay_any 7 0 d _ HDM.out).mono ?_
  rintro e w3 ⟨rfl, hb3⟩
  have S3 := Lib.hid ((st_new w (.int .i64 7) (.int .i64 0) (.string d)).next hb3 (by simp))
  clear hb3
  cases hm : mayB 7 0 d
  · have HNO : Hid (∀ (k n : Int) (t : ByteArray), mayB k n t = true → inI64 n → txtL k n t ≠ s.data.toList) := fun k' n' t' a b c => by
      obtain ⟨rfl, rfl, rfl⟩ := HQ.out k' n' t' a b c
      rw [hm] at a; cases a
    clear hm
    have e0 := S3.out.r.c0
    have e1 := S3.out.r.c1
    have e2 := S3.out.r.c2
    have f0 := S3.out.r.f 0
    have f1 := S3.out.r.f 1
    have f2 := S3.out.r.f 2
    have g0 := S3.out.v.c0
    have g1 := S3.out.v.c1
    have g2 := S3.out.v.c2
    have h0 := S3.out.v.f 0
    have h1 := S3.out.v.f 1
    have h2 := S3.out.v.f 2
    go_wp2
    refine bodyPost_ret (v := .tuple #[.agg #[.int .i64 0, .int .i64 0, .string ⟨#[]⟩], .int .i64 11]) ?_ rfl ⟨parse_no HNO.out, ?_⟩
    · rw [results_cell_tmp rfl]; go_simp
    · exact St.out S3.out _ _ _
  · have HM := Lib.hid hm
    clear hm
    have e0 := S3.out.r.c0
    have e1 := S3.out.r.c1
    have e2 := S3.out.r.c2
    have f0 := S3.out.r.f 0
    have f1 := S3.out.r.f 1
    have f2 := S3.out.r.f 2
    have g0 := S3.out.v.c0
    have g1 := S3.out.v.c1
    have g2 := S3.out.v.c2
    have h0 := S3.out.v.f 0
    have h1 := S3.out.v.f 1
    have h2 := S3.out.v.f 2
    go_wp2
    refine bodyPost_ret (v := .tuple #[.agg #[.int .i64 7, .int .i64 0, .string d], .int .i64 0]) ?_ rfl ⟨parse_hit HM.out (by unfold inI64; omega) HDM.out HT.out HQ.out, ?_⟩
    · rw [results_cell_tmp rfl]; go_simp
    · exact St.out S3.out _ _ _

set_option maxRecDepth 100000 in
set_option maxHeartbeats 4000000 in
theorem refParse_bytes (s : ByteArray) (w : World) (hs : s.size ≤ 5000) (hp : 0 < s.size) (hc : s[0].toNat = 35) :
    Calls Tryd.prog 10 #[.string s] w fun e w' => ParseEnds s.data.toList e ∧ Below w.heap.size w w' := by
  have hl := cons_of hp
  have st0 := st_new w (.int .i64 0) (.int .i64 0) (.string ⟨#[]⟩)
  have hp' : (0 : Int) < (s.size : Int) := by omega
  obtain ⟨d, hd⟩ : ∃ d : ByteArray, s.extract 1 s.size = d := ⟨_, rfl⟩
  have hds : d.size = s.size - 1 := by rw [← hd, drop_to_size]
  have hp1 : (1 : Int) ≤ (s.size : Int) := by omega
  rw [hd] at hl
  have q1 : (s.toList == [116, 114, 117, 101]) = false := by rw [beq_eq_false_iff_ne, ByteArray.toList_eq]; exact head_ne hp (fun e => by rw [e] at hc; exact absurd hc (by decide))
  have q2 : (s.toList == [102, 97, 108, 115, 101]) = false := by rw [beq_eq_false_iff_ne, ByteArray.toList_eq]; exact head_ne hp (fun e => by rw [e] at hc; exact absurd hc (by decide))
  have t64 : ((s[0].toNat : Int) == 64) = false := by rw [hc]; rfl
  have t33 : ((s[0].toNat : Int) == 33) = false := by rw [hc]; rfl
  have t58 : ((s[0].toNat : Int) == 58) = false := by rw [hc]; rfl
  have t35 : ((s[0].toNat : Int) == 35) = true := by rw [hc]; rfl
  have HL := Lib.hid hl
  have HC := Lib.hid hc
  have ST0 := Lib.hid st0
  clear hl hc st0
  go_enter Tryd.func10, Tryd.ntmps10
  go_wp2_with fail
  clear hd q1 q2 t64 t33 t58 t35
  refine (raw_hex d _ (by omega)).mono ?_
  rintro e w1 ⟨⟨u, ok, rfl, hum, hy, hu⟩, hb1⟩
  have HUM := Lib.hid hum
  have HY := Lib.hid hy
  have HU := Lib.hid hu
  have S1 := Lib.hid (ST0.out.next hb1 (by simp))
  clear hum hy hu hb1
  have HQ0 : Hid (∀ (k' n' : Int) (t' : ByteArray), mayB k' n' t' = true → inI64 n' → txtL k' n' t' = s.data.toList → 4 = k' ∧ 0 = n' ∧ flatL hexL t'.data.toList = d.data.toList) := fun k' n' t' a b c => by
    obtain ⟨h1, h2, h3⟩ := (heads_of a (c.trans HL.out)).b35 HC.out
    exact ⟨h1.symm, h2.symm, h3⟩
  cases ok
  · have HNO : Hid (∀ (k n : Int) (t : ByteArray), mayB k n t = true → inI64 n → txtL k n t ≠ s.data.toList) := fun k' n' t' a b c => by
      obtain ⟨_, _, h3⟩ := HQ0.out k' n' t' a b c
      have := (HU.out _ h3).1
      cases this
    have e0 := S1.out.r.c0
    have e1 := S1.out.r.c1
    have e2 := S1.out.r.c2
    have f0 := S1.out.r.f 0
    have f1 := S1.out.r.f 1
    have f2 := S1.out.r.f 2
    have g0 := S1.out.v.c0
    have g1 := S1.out.v.c1
    have g2 := S1.out.v.c2
    have h0 := S1.out.v.f 0
    have h1 := S1.out.v.f 1
    have h2 := S1.out.v.f 2
    go_wp2
    refine bodyPost_ret (v := .tuple #[.agg #[.int .i64 0, .int .i64 0, .string ⟨#[]⟩], .int .i64 11]) ?_ rfl ⟨parse_no HNO.out, ?_⟩
    · rw [results_cell_tmp rfl]; go_simp
    · exact St.out (S1.out.set _ _ _) _ _ _
  · have HT : Hid (txtL 4 0 u = s.data.toList) := by
      show _ = _
      rw [HL.out]
      have h34 : s[0] = 35 := UInt8.toNat_inj.1 HC.out
      rw [h34]
      have h9 := HY.out rfl
      show [35] ++ flatL hexL u.data.toList ++ [] = _
      rw [h9]; simp
    have HQ : Hid (∀ (k' n' : Int) (t' : ByteArray), mayB k' n' t' = true → inI64 n' → txtL k' n' t' = s.data.toList → 4 = k' ∧ 0 = n' ∧ u = t') := fun k' n' t' a b c => by
      obtain ⟨h1, h2, h3⟩ := HQ0.out k' n' t' a b c
      exact ⟨h1, h2, (HU.out _ h3).2⟩
    have e0 := S1.out.r.c0
    have e1 := S1.out.r.c1
    have e2 := S1.out.r.c2
    have f0 := S1.out.r.f 0
    have f1 := S1.out.r.f 1
    have f2 := S1.out.r.f 2
    have g0 := S1.out.v.c0
    have g1 := S1.out.v.c1
    have g2 := S1.out.v.c2
    have h0 := S1.out.v.f 0
    have h1 := S1.out.v.f 1
    have h2 := S1.out.v.f 2
    go_wp2_with fail
    refine (refMay_any 4 0 u _ HUM.out).mono ?_
    rintro e w3 ⟨rfl, hb3⟩
    have S3 := Lib.hid ((S1.out.set (.int .i64 4) (.int .i64 0) (.string u)).next hb3 (by have h9 := S1.out.size; simpa [World.setCell] using h9))
    clear hb3 e0 e1 e2 f0 f1 f2 g0 g1 g2 h0 h1 h2
    cases hm : mayB 4 0 u
    · have HNO : Hid (∀ (k n : Int) (t : ByteArray), mayB k n t = true → inI64 n → txtL k n t ≠ s.data.toList) := fun k' n' t' a b c => by
        obtain ⟨rfl, rfl, rfl⟩ := HQ.out k' n' t' a b c
        rw [hm] at a; cases a
      clear hm
      have e0 := S3.out.r.c0
      have e1 := S3.out.r.c1
      have e2 := S3.out.r.c2
      have f0 := S3.out.r.f 0
      have f1 := S3.out.r.f 1
      have f2 := S3.out.r.f 2
      have g0 := S3.out.v.c0
      have g1 := S3.out.v.c1
      have g2 := S3.out.v.c2
      have h0 := S3.out.v.f 0
      have h1 := S3.out.v.f 1
      have h2 := S3.out.v.f 2
      go_wp2
      refine bodyPost_ret (v := .tuple #[.agg #[.int .i64 0, .int .i64 0, .string ⟨#[]⟩], .int .i64 11]) ?_ rfl ⟨parse_no HNO.out, ?_⟩
      · rw [results_cell_tmp rfl]; go_simp
      · exact St.out S3.out _ _ _
    · have HM := Lib.hid hm
      clear hm
      have e0 := S3.out.r.c0
      have e1 := S3.out.r.c1
      have e2 := S3.out.r.c2
      have f0 := S3.out.r.f 0
      have f1 := S3.out.r.f 1
      have f2 := S3.out.r.f 2
      have g0 := S3.out.v.c0
      have g1 := S3.out.v.c1
      have g2 := S3.out.v.c2
      have h0 := S3.out.v.f 0
      have h1 := S3.out.v.f 1
      have h2 := S3.out.v.f 2
      go_wp2
      refine bodyPost_ret (v := .tuple #[.agg #[.int .i64 4, .int .i64 0, .string u], .int .i64 0]) ?_ rfl ⟨parse_hit HM.out (by unfold inI64; omega) HUM.out HT.out HQ.out, ?_⟩
      · rw [results_cell_tmp rfl]; go_simp
      · exact St.out S3.out _ _ _

theorem quoted {s : ByteArray} (h2 : 1 < s.size) (hq : s[s.size - 1] = 34) : s.data.toList = s[0] :: ((s.extract 1 (s.size - 1)).data.toList ++ [34]) := by
  have hd := drop_at s 0 (by omega)
  rw [List.drop_zero] at hd
  have hl : s.data.toList.length = s.size := Array.length_toList
  have he : (s.extract 1 (s.size - 1)).data.toList = (s.data.toList.take (s.size - 1)).drop 1 := by rw [List.drop_take]; simp
  have ht := take_snoc s (s.size - 1) (by omega)
  rw [List.take_of_length_le (by omega), hq] at ht
  rw [he]
  have h3 : s.data.toList.take (s.size - 1) = s[0] :: (s.data.toList.take (s.size - 1)).drop 1 := by
    have h4 : s.data.toList.take (s.size - 1) = (s[0] :: s.data.toList.drop (0 + 1)).take (s.size - 1) := by rw [← hd]
    obtain ⟨m, hm⟩ : ∃ m, s.size - 1 = m + 1 := ⟨s.size - 2, by omega⟩
    rw [hm] at h4 ⊢
    rw [h4, List.take_succ_cons]; rfl
  exact ht.trans (congrArg (· ++ [34]) h3)

set_option maxRecDepth 100000 in
set_option maxHeartbeats 4000000 in
theorem refParse_text (s : ByteArray) (w : World) (hs : s.size ≤ 5000) (hp : 0 < s.size) (hc : s[0].toNat = 34) (h2 : 1 < s.size) (hq : s[s.size - 1].toNat = 34) :
    Calls Tryd.prog 10 #[.string s] w fun e w' => ParseEnds s.data.toList e ∧ Below w.heap.size w w' := by
  have hl := cons_of hp
  have st0 := st_new w (.int .i64 0) (.int .i64 0) (.string ⟨#[]⟩)
  have hp' : (0 : Int) < (s.size : Int) := by omega
  obtain ⟨d, hd⟩ : ∃ d : ByteArray, s.extract 1 (s.size - 1) = d := ⟨_, rfl⟩
  have hds : d.size = s.size - 2 := by rw [← hd, ByteArray.size_extract]; omega
  have hp1 : (1 : Int) < (s.size : Int) := by omega
  have hp2 : (1 : Int) ≤ (s.size : Int) - 1 := by omega
  have hlast : ((s[s.size - 1].toNat : Int) == 34) = true := by rw [hq]; rfl
  have hl : s.data.toList = s[0] :: (d.data.toList ++ [34]) := by rw [← hd]; exact quoted h2 (UInt8.toNat_inj.1 hq)
  have q1 : (s.toList == [116, 114, 117, 101]) = false := by rw [beq_eq_false_iff_ne, ByteArray.toList_eq]; exact head_ne hp (fun e => by rw [e] at hc; exact absurd hc (by decide))
  have q2 : (s.toList == [102, 97, 108, 115, 101]) = false := by rw [beq_eq_false_iff_ne, ByteArray.toList_eq]; exact head_ne hp (fun e => by rw [e] at hc; exact absurd hc (by decide))
  have t64 : ((s[0].toNat : Int) == 64) = false := by rw [hc]; rfl
  have t33 : ((s[0].toNat : Int) == 33) = false := by rw [hc]; rfl
  have t58 : ((s[0].toNat : Int) == 58) = false := by rw [hc]; rfl
  have t35 : ((s[0].toNat : Int) == 35) = false := by rw [hc]; rfl
  have t34 : ((s[0].toNat : Int) == 34) = true := by rw [hc]; rfl
  have HL := Lib.hid hl
  have HC := Lib.hid hc
  have ST0 := Lib.hid st0
  clear hl hc st0
  go_enter Tryd.func10, Tryd.ntmps10
  go_wp2_with fail
  clear hd q1 q2 t64 t33 t58 t35 t34 hlast
  refine (raw_esc d _ (by omega)).mono ?_
  rintro e w1 ⟨⟨u, ok, rfl, hum, hy, hu⟩, hb1⟩
  have HUM := Lib.hid hum
  have HY := Lib.hid hy
  have HU := Lib.hid hu
  have S1 := Lib.hid (ST0.out.next hb1 (by simp))
  clear hum hy hu hb1
  have HQ0 : Hid (∀ (k' n' : Int) (t' : ByteArray), mayB k' n' t' = true → inI64 n' → txtL k' n' t' = s.data.toList → 3 = k' ∧ 0 = n' ∧ flatL escL t'.data.toList = d.data.toList) := fun k' n' t' a b c => by
    obtain ⟨h1, h2, h3⟩ := (heads_of a (c.trans HL.out)).q34 HC.out
    exact ⟨h1.symm, h2.symm, List.append_cancel_right h3⟩
  cases ok
  · have HNO : Hid (∀ (k n : Int) (t : ByteArray), mayB k n t = true → inI64 n → txtL k n t ≠ s.data.toList) := fun k' n' t' a b c => by
      obtain ⟨_, _, h3⟩ := HQ0.out k' n' t' a b c
      have := (HU.out _ h3).1
      cases this
    have e0 := S1.out.r.c0
    have e1 := S1.out.r.c1
    have e2 := S1.out.r.c2
    have f0 := S1.out.r.f 0
    have f1 := S1.out.r.f 1
    have f2 := S1.out.r.f 2
    have g0 := S1.out.v.c0
    have g1 := S1.out.v.c1
    have g2 := S1.out.v.c2
    have h0 := S1.out.v.f 0
    have h1 := S1.out.v.f 1
    have h2 := S1.out.v.f 2
    go_wp2
    refine bodyPost_ret (v := .tuple #[.agg #[.int .i64 0, .int .i64 0, .string ⟨#[]⟩], .int .i64 11]) ?_ rfl ⟨parse_no HNO.out, ?_⟩
    · rw [results_cell_tmp rfl]; go_simp
    · exact St.out (S1.out.set _ _ _) _ _ _
  · have HT : Hid (txtL 3 0 u = s.data.toList) := by
      show _ = _
      rw [HL.out]
      have h34 : s[0] = 34 := UInt8.toNat_inj.1 HC.out
      rw [h34]
      have h9 := HY.out rfl
      show [34] ++ flatL escL u.data.toList ++ [34] = _
      rw [h9]; simp
    have HQ : Hid (∀ (k' n' : Int) (t' : ByteArray), mayB k' n' t' = true → inI64 n' → txtL k' n' t' = s.data.toList → 3 = k' ∧ 0 = n' ∧ u = t') := fun k' n' t' a b c => by
      obtain ⟨h1, h2, h3⟩ := HQ0.out k' n' t' a b c
      exact ⟨h1, h2, (HU.out _ h3).2⟩
    have e0 := S1.out.r.c0
    have e1 := S1.out.r.c1
    have e2 := S1.out.r.c2
    have f0 := S1.out.r.f 0
    have f1 := S1.out.r.f 1
    have f2 := S1.out.r.f 2
    have g0 := S1.out.v.c0
    have g1 := S1.out.v.c1
    have g2 := S1.out.v.c2
    have h0 := S1.out.v.f 0
    have h1 := S1.out.v.f 1
    have h2 := S1.out.v.f 2
    go_wp2_with fail
    refine (refMay_any 3 0 u _ HUM.out).mono ?_
    rintro e w3 ⟨rfl, hb3⟩
    have S3 := Lib.hid ((S1.out.set (.int .i64 3) (.int .i64 0) (.string u)).next hb3 (by have h9 := S1.out.size; simpa [World.setCell] using h9))
    clear hb3 e0 e1 e2 f0 f1 f2 g0 g1 g2 h0 h1 h2
    cases hm : mayB 3 0 u
    · have HNO : Hid (∀ (k n : Int) (t : ByteArray), mayB k n t = true → inI64 n → txtL k n t ≠ s.data.toList) := fun k' n' t' a b c => by
        obtain ⟨rfl, rfl, rfl⟩ := HQ.out k' n' t' a b c
        rw [hm] at a; cases a
      clear hm
      have e0 := S3.out.r.c0
      have e1 := S3.out.r.c1
      have e2 := S3.out.r.c2
      have f0 := S3.out.r.f 0
      have f1 := S3.out.r.f 1
      have f2 := S3.out.r.f 2
      have g0 := S3.out.v.c0
      have g1 := S3.out.v.c1
      have g2 := S3.out.v.c2
      have h0 := S3.out.v.f 0
      have h1 := S3.out.v.f 1
      have h2 := S3.out.v.f 2
      go_wp2
      refine bodyPost_ret (v := .tuple #[.agg #[.int .i64 0, .int .i64 0, .string ⟨#[]⟩], .int .i64 11]) ?_ rfl ⟨parse_no HNO.out, ?_⟩
      · rw [results_cell_tmp rfl]; go_simp
      · exact St.out S3.out _ _ _
    · have HM := Lib.hid hm
      clear hm
      have e0 := S3.out.r.c0
      have e1 := S3.out.r.c1
      have e2 := S3.out.r.c2
      have f0 := S3.out.r.f 0
      have f1 := S3.out.r.f 1
      have f2 := S3.out.r.f 2
      have g0 := S3.out.v.c0
      have g1 := S3.out.v.c1
      have g2 := S3.out.v.c2
      have h0 := S3.out.v.f 0
      have h1 := S3.out.v.f 1
      have h2 := S3.out.v.f 2
      go_wp2
      refine bodyPost_ret (v := .tuple #[.agg #[.int .i64 3, .int .i64 0, .string u], .int .i64 0]) ?_ rfl ⟨parse_hit HM.out (by unfold inI64; omega) HUM.out HT.out HQ.out, ?_⟩
      · rw [results_cell_tmp rfl]; go_simp
      · exact St.out S3.out _ _ _

theorem last_of {s : ByteArray} (h2 : 1 < s.size) (p : List UInt8) (h : p ++ [34] = (s.extract 1 s.size).data.toList) : s[s.size - 1].toNat = 34 := by
  rw [drop_to] at h
  have h1 : (s.data.toList.drop 1).getLast? = some 34 := by rw [← h]; simp
  have hl : s.data.toList.length = s.size := Array.length_toList
  rw [List.getLast?_drop, if_neg (by rw [hl]; omega), List.getLast?_eq_getElem?, hl] at h1
  rw [List.getElem?_eq_getElem (by rw [hl]; omega)] at h1
  have h3 : s.data.toList[s.size - 1]'(by rw [hl]; omega) = 34 := by injection h1
  have h4 : s[s.size - 1] = 34 := h3
  rw [h4]; rfl

set_option maxRecDepth 100000 in
set_option maxHeartbeats 4000000 in
theorem refParse_int (s : ByteArray) (w : World) (hs : s.size ≤ 5000) (hp : 0 < s.size) (n1 : s.data.toList ≠ [116, 114, 117, 101]) (n2 : s.data.toList ≠ [102, 97, 108, 115, 101]) (n64 : s[0].toNat ≠ 64) (n33 : s[0].toNat ≠ 33) (n58 : s[0].toNat ≠ 58) (n35 : s[0].toNat ≠ 35) (n34 : s[0].toNat ≠ 34) (h2 : 1 < s.size) :
    Calls Tryd.prog 10 #[.string s] w fun e w' => ParseEnds s.data.toList e ∧ Below w.heap.size w w' := by
  have hl := cons_of hp
  have st0 := st_new w (.int .i64 0) (.int .i64 0) (.string ⟨#[]⟩)
  have hp' : (0 : Int) < (s.size : Int) := by omega
  have q1 : (s.toList == [116, 114, 117, 101]) = false := by rw [beq_eq_false_iff_ne, ByteArray.toList_eq]; exact n1
  have q2 : (s.toList == [102, 97, 108, 115, 101]) = false := by rw [beq_eq_false_iff_ne, ByteArray.toList_eq]; exact n2
  have t64 : ((s[0].toNat : Int) == 64) = false := by rw [beq_eq_false_iff_ne]; omega
  have t33 : ((s[0].toNat : Int) == 33) = false := by rw [beq_eq_false_iff_ne]; omega
  have t58 : ((s[0].toNat : Int) == 58) = false := by rw [beq_eq_false_iff_ne]; omega
  have t35 : ((s[0].toNat : Int) == 35) = false := by rw [beq_eq_false_iff_ne]; omega
  have t1 : (1 : Int) < (s.size : Int) := by omega
  have t34 : ((s[0].toNat : Int) == 34) = false := by rw [beq_eq_false_iff_ne]; omega
  have HI : Hid (∀ (k' n' : Int) (t' : ByteArray), mayB k' n' t' = true → inI64 n' → txtL k' n' t' = s.data.toList → 1 = k' ∧ (⟨#[]⟩ : ByteArray) = t' ∧ s.data.toList = Lib.itoa n') := fun k' n' t' a b c => by
    have hh := heads_of a (c.trans hl)
    by_cases h116 : s[0].toNat = 116
    · obtain ⟨rfl, rfl, rfl⟩ := hh.t116 h116
      exact absurd c.symm n1
    by_cases h102 : s[0].toNat = 102
    · obtain ⟨rfl, rfl, rfl⟩ := hh.f102 h102
      exact absurd c.symm n2
    obtain ⟨h1, h2, h3⟩ := hh.i1 h116 h102 n64 n33 n58 n35 n34
    exact ⟨h1.symm, h2.symm, hl.trans h3⟩
  have ST0 := Lib.hid st0
  clear hl st0 n1 n2 n64 n33 n58 n35 n34
  go_enter Tryd.func10, Tryd.ntmps10
  go_wp2_with fail
  clear q1 q2 t64 t33 t58 t35 t34 t1
  refine (refNumber_any s _ (by omega)).mono ?_
  rintro e w1 ⟨⟨n, ok, rfl, hn, hy, hu⟩, hb1⟩
  have HN := Lib.hid hn
  have HY := Lib.hid hy
  have HU := Lib.hid hu
  have S1 := Lib.hid (ST0.out.next hb1 (by simp))
  clear hn hy hu hb1
  cases ok
  · have HNO : Hid (∀ (k n : Int) (t : ByteArray), mayB k n t = true → inI64 n → txtL k n t ≠ s.data.toList) := fun k' n' t' a b c => by
      have := (HU.out n' b (HI.out k' n' t' a b c).2.2).2
      cases this
    have e0 := S1.out.r.c0
    have e1 := S1.out.r.c1
    have e2 := S1.out.r.c2
    have f0 := S1.out.r.f 0
    have f1 := S1.out.r.f 1
    have f2 := S1.out.r.f 2
    have g0 := S1.out.v.c0
    have g1 := S1.out.v.c1
    have g2 := S1.out.v.c2
    have h0 := S1.out.v.f 0
    have h1 := S1.out.v.f 1
    have h2 := S1.out.v.f 2
    go_wp2
    refine bodyPost_ret (v := .tuple #[.agg #[.int .i64 0, .int .i64 0, .string ⟨#[]⟩], .int .i64 11]) ?_ rfl ⟨parse_no HNO.out, ?_⟩
    · rw [results_cell_tmp rfl]; go_simp
    · exact St.out (S1.out.set _ _ _) _ _ _
  · have HT : Hid (txtL 1 n ⟨#[]⟩ = s.data.toList) := (HY.out rfl).symm
    have HQ : Hid (∀ (k' n' : Int) (t' : ByteArray), mayB k' n' t' = true → inI64 n' → txtL k' n' t' = s.data.toList → 1 = k' ∧ n = n' ∧ (⟨#[]⟩ : ByteArray) = t') := fun k' n' t' a b c => by
      obtain ⟨h1, h2, h3⟩ := HI.out k' n' t' a b c
      exact ⟨h1, (HU.out n' b h3).1, h2⟩
    have e0 := S1.out.r.c0
    have e1 := S1.out.r.c1
    have e2 := S1.out.r.c2
    have f0 := S1.out.r.f 0
    have f1 := S1.out.r.f 1
    have f2 := S1.out.r.f 2
    have g0 := S1.out.v.c0
    have g1 := S1.out.v.c1
    have g2 := S1.out.v.c2
    have h0 := S1.out.v.f 0
    have h1 := S1.out.v.f 1
    have h2 := S1.out.v.f 2
    go_wp2_with fail
    refine (refMay_any 1 n ⟨#[]⟩ _ (by decide)).mono ?_
    rintro e w3 ⟨rfl, hb3⟩
    have S3 := Lib.hid ((S1.out.set (.int .i64 1) (.int .i64 n) (.string ⟨#[]⟩)).next hb3 (by have h9 := S1.out.size; simpa [World.setCell] using h9))
    clear hb3 e0 e1 e2 f0 f1 f2 g0 g1 g2 h0 h1 h2
    have HM : Hid (mayB 1 n ⟨#[]⟩ = true) := rfl
    rw [HM.out]
    have e0 := S3.out.r.c0
    have e1 := S3.out.r.c1
    have e2 := S3.out.r.c2
    have f0 := S3.out.r.f 0
    have f1 := S3.out.r.f 1
    have f2 := S3.out.r.f 2
    have g0 := S3.out.v.c0
    have g1 := S3.out.v.c1
    have g2 := S3.out.v.c2
    have h0 := S3.out.v.f 0
    have h1 := S3.out.v.f 1
    have h2 := S3.out.v.f 2
    go_wp2
    refine bodyPost_ret (v := .tuple #[.agg #[.int .i64 1, .int .i64 n, .string ⟨#[]⟩], .int .i64 0]) ?_ rfl ⟨parse_hit HM.out HN.out (by decide) HT.out HQ.out, ?_⟩
    · rw [results_cell_tmp rfl]; go_simp
    · exact St.out S3.out _ _ _

set_option maxRecDepth 100000 in
set_option maxHeartbeats 4000000 in
theorem refParse_one (s : ByteArray) (w : World) (hs : s.size ≤ 5000) (hp : 0 < s.size) (n1 : s.data.toList ≠ [116, 114, 117, 101]) (n2 : s.data.toList ≠ [102, 97, 108, 115, 101]) (n64 : s[0].toNat ≠ 64) (n33 : s[0].toNat ≠ 33) (n58 : s[0].toNat ≠ 58) (n35 : s[0].toNat ≠ 35) (hone : s.size = 1) :
    Calls Tryd.prog 10 #[.string s] w fun e w' => ParseEnds s.data.toList e ∧ Below w.heap.size w w' := by
  have hl := cons_of hp
  have st0 := st_new w (.int .i64 0) (.int .i64 0) (.string ⟨#[]⟩)
  have hp' : (0 : Int) < (s.size : Int) := by omega
  have q1 : (s.toList == [116, 114, 117, 101]) = false := by rw [beq_eq_false_iff_ne, ByteArray.toList_eq]; exact n1
  have q2 : (s.toList == [102, 97, 108, 115, 101]) = false := by rw [beq_eq_false_iff_ne, ByteArray.toList_eq]; exact n2
  have t64 : ((s[0].toNat : Int) == 64) = false := by rw [beq_eq_false_iff_ne]; omega
  have t33 : ((s[0].toNat : Int) == 33) = false := by rw [beq_eq_false_iff_ne]; omega
  have t58 : ((s[0].toNat : Int) == 58) = false := by rw [beq_eq_false_iff_ne]; omega
  have t35 : ((s[0].toNat : Int) == 35) = false := by rw [beq_eq_false_iff_ne]; omega
  have t1 : ¬ (1 : Int) < (s.size : Int) := by omega
  have hnil : (s.extract 1 s.size).data.toList = [] := by rw [drop_to]; exact drop_end s 1 (by omega)
  have HI : Hid (∀ (k' n' : Int) (t' : ByteArray), mayB k' n' t' = true → inI64 n' → txtL k' n' t' = s.data.toList → 1 = k' ∧ (⟨#[]⟩ : ByteArray) = t' ∧ s.data.toList = Lib.itoa n') := fun k' n' t' a b c => by
    have hh := heads_of a (c.trans hl)
    by_cases h116 : s[0].toNat = 116
    · obtain ⟨rfl, rfl, rfl⟩ := hh.t116 h116
      exact absurd c.symm n1
    by_cases h102 : s[0].toNat = 102
    · obtain ⟨rfl, rfl, rfl⟩ := hh.f102 h102
      exact absurd c.symm n2
    have n34 : s[0].toNat ≠ 34 := fun h34 => by
      obtain ⟨_, _, h3⟩ := hh.q34 h34
      rw [hnil] at h3; simp at h3
    obtain ⟨h1, h2, h3⟩ := hh.i1 h116 h102 n64 n33 n58 n35 n34
    exact ⟨h1.symm, h2.symm, hl.trans h3⟩
  have ST0 := Lib.hid st0
  clear hl st0 n1 n2 n64 n33 n58 n35 hone hnil
  go_enter Tryd.func10, Tryd.ntmps10
  go_wp2_with fail
  clear q1 q2 t64 t33 t58 t35 t1
  refine (refNumber_any s _ (by omega)).mono ?_
  rintro e w1 ⟨⟨n, ok, rfl, hn, hy, hu⟩, hb1⟩
  have HN := Lib.hid hn
  have HY := Lib.hid hy
  have HU := Lib.hid hu
  have S1 := Lib.hid (ST0.out.next hb1 (by simp))
  clear hn hy hu hb1
  cases ok
  · have HNO : Hid (∀ (k n : Int) (t : ByteArray), mayB k n t = true → inI64 n → txtL k n t ≠ s.data.toList) := fun k' n' t' a b c => by
      have := (HU.out n' b (HI.out k' n' t' a b c).2.2).2
      cases this
    have e0 := S1.out.r.c0
    have e1 := S1.out.r.c1
    have e2 := S1.out.r.c2
    have f0 := S1.out.r.f 0
    have f1 := S1.out.r.f 1
    have f2 := S1.out.r.f 2
    have g0 := S1.out.v.c0
    have g1 := S1.out.v.c1
    have g2 := S1.out.v.c2
    have h0 := S1.out.v.f 0
    have h1 := S1.out.v.f 1
    have h2 := S1.out.v.f 2
    go_wp2
    refine bodyPost_ret (v := .tuple #[.agg #[.int .i64 0, .int .i64 0, .string ⟨#[]⟩], .int .i64 11]) ?_ rfl ⟨parse_no HNO.out, ?_⟩
    · rw [results_cell_tmp rfl]; go_simp
    · exact St.out (S1.out.set _ _ _) _ _ _
  · have HT : Hid (txtL 1 n ⟨#[]⟩ = s.data.toList) := (HY.out rfl).symm
    have HQ : Hid (∀ (k' n' : Int) (t' : ByteArray), mayB k' n' t' = true → inI64 n' → txtL k' n' t' = s.data.toList → 1 = k' ∧ n = n' ∧ (⟨#[]⟩ : ByteArray) = t') := fun k' n' t' a b c => by
      obtain ⟨h1, h2, h3⟩ := HI.out k' n' t' a b c
      exact ⟨h1, (HU.out n' b h3).1, h2⟩
    have e0 := S1.out.r.c0
    have e1 := S1.out.r.c1
    have e2 := S1.out.r.c2
    have f0 := S1.out.r.f 0
    have f1 := S1.out.r.f 1
    have f2 := S1.out.r.f 2
    have g0 := S1.out.v.c0
    have g1 := S1.out.v.c1
    have g2 := S1.out.v.c2
    have h0 := S1.out.v.f 0
    have h1 := S1.out.v.f 1
    have h2 := S1.out.v.f 2
    go_wp2_with fail
    refine (refMay_any 1 n ⟨#[]⟩ _ (by decide)).mono ?_
    rintro e w3 ⟨rfl, hb3⟩
    have S3 := Lib.hid ((S1.out.set (.int .i64 1) (.int .i64 n) (.string ⟨#[]⟩)).next hb3 (by have h9 := S1.out.size; simpa [World.setCell] using h9))
    clear hb3 e0 e1 e2 f0 f1 f2 g0 g1 g2 h0 h1 h2
    have HM : Hid (mayB 1 n ⟨#[]⟩ = true) := rfl
    rw [HM.out]
    have e0 := S3.out.r.c0
    have e1 := S3.out.r.c1
    have e2 := S3.out.r.c2
    have f0 := S3.out.r.f 0
    have f1 := S3.out.r.f 1
    have f2 := S3.out.r.f 2
    have g0 := S3.out.v.c0
    have g1 := S3.out.v.c1
    have g2 := S3.out.v.c2
    have h0 := S3.out.v.f 0
    have h1 := S3.out.v.f 1
    have h2 := S3.out.v.f 2
    go_wp2
    refine bodyPost_ret (v := .tuple #[.agg #[.int .i64 1, .int .i64 n, .string ⟨#[]⟩], .int .i64 0]) ?_ rfl ⟨parse_hit HM.out HN.out (by decide) HT.out HQ.out, ?_⟩
    · rw [results_cell_tmp rfl]; go_simp
    · exact St.out S3.out _ _ _

set_option maxRecDepth 100000 in
set_option maxHeartbeats 4000000 in
theorem refParse_open (s : ByteArray) (w : World) (hs : s.size ≤ 5000) (hp : 0 < s.size) (n1 : s.data.toList ≠ [116, 114, 117, 101]) (n2 : s.data.toList ≠ [102, 97, 108, 115, 101]) (n64 : s[0].toNat ≠ 64) (n33 : s[0].toNat ≠ 33) (n58 : s[0].toNat ≠ 58) (n35 : s[0].toNat ≠ 35) (h34 : s[0].toNat = 34) (h2 : 1 < s.size) (nq : s[s.size - 1].toNat ≠ 34) :
    Calls Tryd.prog 10 #[.string s] w fun e w' => ParseEnds s.data.toList e ∧ Below w.heap.size w w' := by
  have hl := cons_of hp
  have st0 := st_new w (.int .i64 0) (.int .i64 0) (.string ⟨#[]⟩)
  have hp' : (0 : Int) < (s.size : Int) := by omega
  have q1 : (s.toList == [116, 114, 117, 101]) = false := by rw [beq_eq_false_iff_ne, ByteArray.toList_eq]; exact n1
  have q2 : (s.toList == [102, 97, 108, 115, 101]) = false := by rw [beq_eq_false_iff_ne, ByteArray.toList_eq]; exact n2
  have t64 : ((s[0].toNat : Int) == 64) = false := by rw [beq_eq_false_iff_ne]; omega
  have t33 : ((s[0].toNat : Int) == 33) = false := by rw [beq_eq_false_iff_ne]; omega
  have t58 : ((s[0].toNat : Int) == 58) = false := by rw [beq_eq_false_iff_ne]; omega
  have t35 : ((s[0].toNat : Int) == 35) = false := by rw [beq_eq_false_iff_ne]; omega
  have t34 : ((s[0].toNat : Int) == 34) = true := by rw [h34]; rfl
  have t1 : (1 : Int) < (s.size : Int) := by omega
  have hlast : ((s[s.size - 1].toNat : Int) == 34) = false := by rw [beq_eq_false_iff_ne]; omega
  have hend := last_of h2
  have HI : Hid (∀ (k' n' : Int) (t' : ByteArray), mayB k' n' t' = true → inI64 n' → txtL k' n' t' = s.data.toList → 1 = k' ∧ (⟨#[]⟩ : ByteArray) = t' ∧ s.data.toList = Lib.itoa n') := fun k' n' t' a b c => by
    have hh := heads_of a (c.trans hl)
    by_cases h116 : s[0].toNat = 116
    · obtain ⟨rfl, rfl, rfl⟩ := hh.t116 h116
      exact absurd c.symm n1
    by_cases h102 : s[0].toNat = 102
    · obtain ⟨rfl, rfl, rfl⟩ := hh.f102 h102
      exact absurd c.symm n2
    have n34 : s[0].toNat ≠ 34 := fun h34 => by
      obtain ⟨_, _, h3⟩ := hh.q34 h34
      exact nq (hend _ h3)
    obtain ⟨h1, h2, h3⟩ := hh.i1 h116 h102 n64 n33 n58 n35 n34
    exact ⟨h1.symm, h2.symm, hl.trans h3⟩
  have ST0 := Lib.hid st0
  clear hl st0 n1 n2 n64 n33 n58 n35 nq hend h34
  go_enter Tryd.func10, Tryd.ntmps10
  go_wp2_with fail
  clear q1 q2 t64 t33 t58 t35 t34 t1 hlast
  refine (refNumber_any s _ (by omega)).mono ?_
  rintro e w1 ⟨⟨n, ok, rfl, hn, hy, hu⟩, hb1⟩
  have HN := Lib.hid hn
  have HY := Lib.hid hy
  have HU := Lib.hid hu
  have S1 := Lib.hid (ST0.out.next hb1 (by simp))
  clear hn hy hu hb1
  cases ok
  · have HNO : Hid (∀ (k n : Int) (t : ByteArray), mayB k n t = true → inI64 n → txtL k n t ≠ s.data.toList) := fun k' n' t' a b c => by
      have := (HU.out n' b (HI.out k' n' t' a b c).2.2).2
      cases this
    have e0 := S1.out.r.c0
    have e1 := S1.out.r.c1
    have e2 := S1.out.r.c2
    have f0 := S1.out.r.f 0
    have f1 := S1.out.r.f 1
    have f2 := S1.out.r.f 2
    have g0 := S1.out.v.c0
    have g1 := S1.out.v.c1
    have g2 := S1.out.v.c2
    have h0 := S1.out.v.f 0
    have h1 := S1.out.v.f 1
    have h2 := S1.out.v.f 2
    go_wp2
    refine bodyPost_ret (v := .tuple #[.agg #[.int .i64 0, .int .i64 0, .string ⟨#[]⟩], .int .i64 11]) ?_ rfl ⟨parse_no HNO.out, ?_⟩
    · rw [results_cell_tmp rfl]; go_simp
    · exact St.out (S1.out.set _ _ _) _ _ _
  · have HT : Hid (txtL 1 n ⟨#[]⟩ = s.data.toList) := (HY.out rfl).symm
    have HQ : Hid (∀ (k' n' : Int) (t' : ByteArray), mayB k' n' t' = true → inI64 n' → txtL k' n' t' = s.data.toList → 1 = k' ∧ n = n' ∧ (⟨#[]⟩ : ByteArray) = t') := fun k' n' t' a b c => by
      obtain ⟨h1, h2, h3⟩ := HI.out k' n' t' a b c
      exact ⟨h1, (HU.out n' b h3).1, h2⟩
    have e0 := S1.out.r.c0
    have e1 := S1.out.r.c1
    have e2 := S1.out.r.c2
    have f0 := S1.out.r.f 0
    have f1 := S1.out.r.f 1
    have f2 := S1.out.r.f 2
    have g0 := S1.out.v.c0
    have g1 := S1.out.v.c1
    have g2 := S1.out.v.c2
    have h0 := S1.out.v.f 0
    have h1 := S1.out.v.f 1
    have h2 := S1.out.v.f 2
    go_wp2_with fail
    refine (refMay_any 1 n ⟨#[]⟩ _ (by decide)).mono ?_
    rintro e w3 ⟨rfl, hb3⟩
    have S3 := Lib.hid ((S1.out.set (.int .i64 1) (.int .i64 n) (.string ⟨#[]⟩)).next hb3 (by have h9 := S1.out.size; simpa [World.setCell] using h9))
    clear hb3 e0 e1 e2 f0 f1 f2 g0 g1 g2 h0 h1 h2
    have HM : Hid (mayB 1 n ⟨#[]⟩ = true) := rfl
    rw [HM.out]
    have e0 := S3.out.r.c0
    have e1 := S3.out.r.c1
    have e2 := S3.out.r.c2
    have f0 := S3.out.r.f 0
    have f1 := S3.out.r.f 1
    have f2 := S3.out.r.f 2
    have g0 := S3.out.v.c0
    have g1 := S3.out.v.c1
    have g2 := S3.out.v.c2
    have h0 := S3.out.v.f 0
    have h1 := S3.out.v.f 1
    have h2 := S3.out.v.f 2
    go_wp2
    refine bodyPost_ret (v := .tuple #[.agg #[.int .i64 1, .int .i64 n, .string ⟨#[]⟩], .int .i64 0]) ?_ rfl ⟨parse_hit HM.out HN.out (by decide) HT.out HQ.out, ?_⟩
    · rw [results_cell_tmp rfl]; go_simp
    · exact St.out S3.out _ _ _

set_option maxRecDepth 100000 in
set_option maxHeartbeats 4000000 in
theorem refParse_true (w : World) :
    Calls Tryd.prog 10 #[.string ⟨#[116, 114, 117, 101]⟩] w fun e w' => ParseEnds [116, 114, 117, 101] e ∧ Below w.heap.size w w' := by
  have HQ : Hid (∀ (k' n' : Int) (t' : ByteArray), mayB k' n' t' = true → inI64 n' → txtL k' n' t' = [116, 114, 117, 101] → 2 = k' ∧ 1 = n' ∧ (⟨#[]⟩ : ByteArray) = t') := fun k' n' t' a b c => by
    obtain ⟨h1, h2, h3⟩ := (heads_of a c).t116 rfl
    exact ⟨h1.symm, h2.symm, h3.symm⟩
  go_enter Tryd.func10, Tryd.ntmps10
  go_wp2
  refine bodyPost_ret (v := .tuple #[.agg #[.int .i64 2, .int .i64 1, .string ⟨#[]⟩], .int .i64 0]) ?_ rfl ⟨parse_hit (k := 2) (n := 1) (t := ⟨#[]⟩) rfl (by unfold inI64; omega) (by decide) rfl HQ.out, ?_⟩
  · rw [results_cell_tmp rfl]; go_simp
  · exact ((Below.refl _ _).alloc (Nat.le_refl _) _).alloc (by simp) _

set_option maxRecDepth 100000 in
set_option maxHeartbeats 4000000 in
theorem refParse_false (w : World) :
    Calls Tryd.prog 10 #[.string ⟨#[102, 97, 108, 115, 101]⟩] w fun e w' => ParseEnds [102, 97, 108, 115, 101] e ∧ Below w.heap.size w w' := by
  have HQ : Hid (∀ (k' n' : Int) (t' : ByteArray), mayB k' n' t' = true → inI64 n' → txtL k' n' t' = [102, 97, 108, 115, 101] → 2 = k' ∧ 0 = n' ∧ (⟨#[]⟩ : ByteArray) = t') := fun k' n' t' a b c => by
    obtain ⟨h1, h2, h3⟩ := (heads_of a c).f102 rfl
    exact ⟨h1.symm, h2.symm, h3.symm⟩
  go_enter Tryd.func10, Tryd.ntmps10
  go_wp2
  refine bodyPost_ret (v := .tuple #[.agg #[.int .i64 2, .int .i64 0, .string ⟨#[]⟩], .int .i64 0]) ?_ rfl ⟨parse_hit (k := 2) (n := 0) (t := ⟨#[]⟩) rfl (by unfold inI64; omega) (by decide) rfl HQ.out, ?_⟩
  · rw [results_cell_tmp rfl]; go_simp
  · exact ((Below.refl _ _).alloc (Nat.le_refl _) _).alloc (by simp) _

set_option maxRecDepth 100000 in
set_option maxHeartbeats 4000000 in
theorem refParse_nil (w : World) :
    Calls Tryd.prog 10 #[.string ⟨#[]⟩] w fun e w' => ParseEnds [] e ∧ Below w.heap.size w w' := by
  have ST0 := Lib.hid (st_new w (.int .i64 0) (.int .i64 0) (.string ⟨#[]⟩))
  go_enter Tryd.func10, Tryd.ntmps10
  go_wp2_with fail
  refine (refNumber_any ⟨#[]⟩ _ (by decide)).mono ?_
  rintro e w1 ⟨⟨n, ok, rfl, hn, hy, hu⟩, hb1⟩
  have HNO : Hid (∀ (k n : Int) (t : ByteArray), mayB k n t = true → inI64 n → txtL k n t ≠ []) := fun k n t a _ => txt_ne a
  have S1 := Lib.hid (ST0.out.next hb1 (by simp))
  cases ok
  · clear hn hy hu hb1
    have e0 := S1.out.r.c0
    have e1 := S1.out.r.c1
    have e2 := S1.out.r.c2
    have f0 := S1.out.r.f 0
    have f1 := S1.out.r.f 1
    have f2 := S1.out.r.f 2
    have g0 := S1.out.v.c0
    have g1 := S1.out.v.c1
    have g2 := S1.out.v.c2
    have h0 := S1.out.v.f 0
    have h1 := S1.out.v.f 1
    have h2 := S1.out.v.f 2
    go_wp2
    refine bodyPost_ret (v := .tuple #[.agg #[.int .i64 0, .int .i64 0, .string ⟨#[]⟩], .int .i64 11]) ?_ rfl ⟨parse_no HNO.out, ?_⟩
    · rw [results_cell_tmp rfl]; go_simp
    · exact St.out (S1.out.set _ _ _) _ _ _
  · have h9 : [] = Lib.itoa n := hy rfl
    exact absurd h9.symm (HNO.out 1 n ⟨#[]⟩ rfl hn)

theorem refParse_any (s : ByteArray) (w : World) (hs : s.size ≤ 5000) :
    Calls Tryd.prog 10 #[.string s] w fun e w' => ParseEnds s.data.toList e ∧ Below w.heap.size w w' := by
  by_cases h0 : s.size = 0
  · obtain rfl := size_zero h0
    exact refParse_nil w
  have hp : 0 < s.size := by omega
  by_cases n1 : s.data.toList = [116, 114, 117, 101]
  · obtain rfl : s = ⟨#[116, 114, 117, 101]⟩ := ByteArray.ext (Array.toList_inj.1 n1)
    exact refParse_true w
  by_cases n2 : s.data.toList = [102, 97, 108, 115, 101]
  · obtain rfl : s = ⟨#[102, 97, 108, 115, 101]⟩ := ByteArray.ext (Array.toList_inj.1 n2)
    exact refParse_false w
  by_cases n64 : s[0].toNat = 64
  · exact refParse_ref s w hs hp n64
  by_cases n33 : s[0].toNat = 33
  · exact refParse_time s w hs hp n33
  by_cases n58 : s[0].toNat = 58
  · exact refParse_word s w hs hp n58
  by_cases n35 : s[0].toNat = 35
  · exact refParse_bytes s w hs hp n35
  by_cases h2 : s.size = 1
  · exact refParse_one s w hs hp n1 n2 n64 n33 n58 n35 h2
  have h2' : 1 < s.size := by omega
  by_cases n34 : s[0].toNat = 34
  · by_cases nq : s[s.size - 1].toNat = 34
    · exact refParse_text s w hs hp n34 h2' nq
    · exact refParse_open s w hs hp n1 n2 n64 n33 n58 n35 n34 h2' nq
  · exact refParse_int s w hs hp n1 n2 n64 n33 n58 n35 n34 h2'

end Go.Proofs.YtpnjolacmkcofaaDoor
