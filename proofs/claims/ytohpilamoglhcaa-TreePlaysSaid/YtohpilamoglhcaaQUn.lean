/-
  CONTRACTS: within, has; plain: what of a tree stands between two edges, and what another tree has not so.
-/
import Derived.Test.YtohpilamoglhcaaQTell
import Derived.Test.YtohpilamoglhcaaQApi
import Derived.Test.YtohpilamoglhcaaQCut
namespace Go.Proofs.Ytohpilamoglhcaa
open Go.RowKit

/-- an edge: none, or a node's pair -/
def EdgeAt [LT Gb] (w : World) (v : Option Addr) : Option Pr → Prop
  | none => v = none
  | some p => ∃ b pb lv rv n, v = some ⟨b, 0, none⟩ ∧ NodeAt w b pb lv rv n ∧ PairAt w pb p
theorem EdgeAt.next [LT Gb] {w w' : World} {v : Option Addr} : ∀ {e : Option Pr}, EdgeAt w v e → Below w.heap.size w w' → EdgeAt w' v e
  | none, h, _ => h
  | some _, ⟨b, pb, lv, rv, n, e, h1, h2⟩, hb => ⟨b, pb, lv, rv, n, e, h1.next hb (Nat.le_refl _), h2.next hb⟩
def lowOut : Option Pr → By → Prop
  | none, _ => False
  | some a, k => ordL k a.1 ≤ 0
def highOut : Option Pr → By → Prop
  | none, _ => False
  | some a, k => 0 ≤ ordL k a.1
instance (e : Option Pr) (k : By) : Decidable (lowOut e k) := by cases e <;> unfold lowOut <;> infer_instance
instance (e : Option Pr) (k : By) : Decidable (highOut e k) := by cases e <;> unfold highOut <;> infer_instance
/-- the subtree between two edges -/
def withinT : Tr → Option Pr → Option Pr → Tr
  | .nil, _, _ => .nil
  | .nd b p l r, lo, hi => if lowOut lo p.1 then withinT r lo hi else if highOut hi p.1 then withinT l lo hi else .nd b p l r
theorem qo_le_lt {l r t : By} (h : ordL l r ≤ 0) (k : ordL r t = -1) : ordL l t = -1 := by
  rcases qo_three l r with h1 | h1 | h1
  · exact qo_trans _ _ _ h1 k
  · subst h1; exact k
  · omega
theorem within_find : ∀ (t : Tr) (lo hi : Option Pr) (k : By), ¬ lowOut lo k → ¬ highOut hi k → findT (withinT t lo hi) k = findT t k
  | .nil, _, _, _, _, _ => rfl
  | .nd b p l r, lo, hi, k, h1, h2 => by
    have ihl := within_find l lo hi k h1 h2
    have ihr := within_find r lo hi k h1 h2
    rw [withinT]
    split
    · rename_i g
      rw [ihr]
      cases lo with
      | none => exact absurd g (fun h => h)
      | some a =>
        have hg : ordL p.1 a.1 ≤ 0 := g
        have hk : ¬ ordL k a.1 ≤ 0 := h1
        have h3 : ordL a.1 k = -1 := by rcases qo_three k a.1 with h | h | h <;> first | omega | exact qo_one h | exact absurd (by rw [(qo_zero _ _).2 h]; omega) hk
        have h4 := qo_mone (qo_le_lt hg h3)
        show _ = findT (.nd b p l r) k
        rw [findT, if_neg (by omega), if_pos h4]
    · split
      · rename_i g
        rw [ihl]
        cases hi with
        | none => exact absurd g (fun h => h)
        | some a =>
          have hg : 0 ≤ ordL p.1 a.1 := g
          have hk : ¬ 0 ≤ ordL k a.1 := h2
          have h3 : ordL k a.1 = -1 := by rcases qo_three k a.1 with h | h | h <;> first | omega | exact h | exact absurd (by rw [(qo_zero _ _).2 h]; omega) hk
          have h5 : ordL a.1 p.1 ≤ 0 := by rw [qo_swap]; omega
          have h4 : ordL k p.1 = -1 := by
            rcases qo_three a.1 p.1 with h | h | h
            · exact qo_trans _ _ _ h3 h
            · rw [← h]; exact h3
            · omega
          show _ = findT (.nd b p l r) k
          rw [findT, if_pos h4]
      · rfl
theorem within_at [LT Gb] {w : World} : ∀ {t : Tr} (lo hi : Option Pr), TreeAt w t → TreeAt w (withinT t lo hi)
  | .nil, _, _, h => h
  | .nd b p l r, lo, hi, h => by
    rw [withinT]
    split
    · exact within_at lo hi h.2.2
    · split
      · exact within_at lo hi h.2.1
      · exact h
/-- has a tree a pair so? -/
def hasT (t : Tr) (x : Pr) : Bool := match findT t x.1 with | .nil => false | .nd _ p _ _ => p.2 == x.2
theorem within_has (t : Tr) (lo hi : Option Pr) (x : Pr) (h1 : ¬ lowOut lo x.1) (h2 : ¬ highOut hi x.1) : hasT (withinT t lo hi) x = hasT t x := by
  unfold hasT; rw [within_find t lo hi x.1 h1 h2]
theorem has_get {t : Tr} (x : Pr) (h : Rise t.list) : hasT t x = decide (getL t.list x.1 = some x.2) := by
  unfold hasT
  rcases findT_get t x.1 h with ⟨h1, h2⟩ | ⟨b, v, l, r, h1, h2⟩
  · rw [h1, h2]; simp
  · rw [h1, h2]
    show (v == x.2) = _
    by_cases g : v = x.2
    · subst g; simp
    · rw [beq_eq_false_iff_ne.2 g]
      exact (decide_eq_false (fun h => g (by injection h))).symm
theorem has_own {t : Tr} {x : Pr} (h : Rise t.list) (hx : x ∈ t.list) : hasT t x = true := by
  rw [has_get x h]
  exact decide_eq_true ((getL_some h).2 hx)
set_option maxRecDepth 100000 in
set_option maxHeartbeats 4000000 in
theorem within_nn [LT Gb] (t : Tr) (vl vh : Option Addr) (w : World) (ht : TreeAt w t) (hlo : EdgeAt w vl none) (hhi : EdgeAt w vh none) :
    Calls Try.prog 104 #[t.ptr, .pointer vl, .pointer vh] w fun e w' => e = .returned (withinT t none none).ptr ∧ Below w.heap.size w w' := by
  have HT := Lib.hid ht
  obtain rfl : vl = none := hlo
  obtain rfl : vh = none := hhi
  clear ht
  go_enter Try.func104, Try.ntmps104
  go_wp2
  go_step3
  go_wp2
  go_step3
  go_wp2_with fail
  go_loopg [0] t.cnt (fun g x wr => ∃ s : Tr, x = s.ptr ∧ s.cnt ≤ g ∧ Hid (Below w.heap.size w wr) ∧ Hid (TreeAt w s) ∧ Hid (withinT s none none = withinT t none none))
  case atStart => exact ⟨t, rfl, Nat.le_refl _, Below.refl _ _, HT.out, rfl⟩
  case round =>
    obtain ⟨s, rfl, hs, HB, HS, HE⟩ := hrel
    cases s with
    | nil =>
      have hf : Ending.returned (.pointer none) = Ending.returned (withinT t none none).ptr := by rw [← HE.out]; rfl
      simp only [Tr.ptr]
      go_wp2
      rw [Exit.noGoto_ret]
      go_ret
      exact ⟨hf, HB.out⟩
    | nd b p l r =>
      cases gk with
      | zero => simp only [Tr.cnt] at hs; omega
      | succ g =>
        simp only [Tr.cnt] at hs
        obtain ⟨⟨pb, hnd, hp⟩, hl, hr⟩ := id HS.out
        have HL := Lib.hid hl
        have HR := Lib.hid hr
        obtain ⟨A2, c2, A2', c2', hpb, hpk, _⟩ := id hp
        replace hpk := hpk.1
        obtain ⟨ul, hul⟩ := l.ptr_pointer
        obtain ⟨ur, hur⟩ := r.ptr_pointer
        rw [hul, hur] at hnd
        have HUL := Lib.hid hul
        have HUR := Lib.hid hur
        have HND := Lib.hid hnd
        have HPB := Lib.hid hpb
        have HPK := Lib.hid hpk
        have c0 := (hnd.next HB.out (Nat.le_refl _)).c0
        have p0 : wr.cell? ⟨pb, 0, none⟩ = some (.slice A2 p.1.length c2) := by rw [HB.out.cell (p := ⟨pb, 0, none⟩) (Array.getElem?_eq_some_iff.1 hpb).1]; simp [World.cell?, hpb]
        have HFD : Hid (withinT (.nd b p l r) none none = if lowOut none p.1 then withinT r none none else if highOut none p.1 then withinT l none none else .nd b p l r) := rfl
        clear hl hr hp hpb hpk hnd hul hur
        simp only [Tr.ptr]
        go_wp2_with fail
        go_quiet (fail)
        clear c0 p0
        obtain ⟨wd, hwd⟩ : ∃ X, wr.drewN nq = X := ⟨_, rfl⟩
        have HB0 := HB
        clear HB
        have HB : Hid (Below w.heap.size w wd) := by show Below _ _ _; rw [← hwd]; exact qb_dn HB0.out nq
        rw [hwd]
        clear hwd HB0
        have c0 := (HND.out.next HB.out (Nat.le_refl _)).c0
        have p0 : wd.cell? ⟨pb, 0, none⟩ = some (.slice A2 p.1.length c2) := by rw [HB.out.cell (p := ⟨pb, 0, none⟩) (Array.getElem?_eq_some_iff.1 HPB.out).1]; simp [World.cell?, HPB.out]
        go_wp2_with fail
        go_quiet (fail)
        obtain ⟨we, hwd⟩ : ∃ X, wd.drewN nq = X := ⟨_, rfl⟩
        have HB0 := HB
        clear HB
        have HB : Hid (Below w.heap.size w we) := by show Below _ _ _; rw [← hwd]; exact qb_dn HB0.out nq
        rw [hwd]
        clear hwd HB0
        have HFE : Hid (Ending.returned (.pointer (some ⟨b, 0, none⟩)) = Ending.returned (withinT t none none).ptr) := by show _ = _; rw [← HE.out, HFD.out, if_neg (show ¬ lowOut none p.1 from fun h => h), if_neg (show ¬ highOut none p.1 from fun h => h)]; rfl
        go_wp2_with fail
        rw [Exit.noGoto_ret]
        go_ret
        exact ⟨HFE.out, HB.out⟩
set_option maxRecDepth 100000 in
set_option maxHeartbeats 4000000 in
theorem within_ns [LT Gb] (t : Tr) (z : Pr) (vl vh : Option Addr) (w : World) (ht : TreeAt w t) (hlo : EdgeAt w vl none) (hhi : EdgeAt w vh (some z)) :
    Calls Try.prog 104 #[t.ptr, .pointer vl, .pointer vh] w fun e w' => e = .returned (withinT t none (some z)).ptr ∧ Below w.heap.size w w' := by
  have HT := Lib.hid ht
  obtain rfl : vl = none := hlo
  obtain ⟨bh, pbh, hl, hr, hn, rfl, hhn, hhp⟩ := hhi
  obtain ⟨Ah, ch, Ah', ch', hhb, hhk, _⟩ := hhp
  have HHN := Lib.hid hhn
  have HHP := Lib.hid hhb
  have HHK := Lib.hid hhk.1
  clear hhn hhb hhk
  clear ht
  go_enter Try.func104, Try.ntmps104
  go_wp2
  go_step3
  go_wp2
  go_step3
  go_wp2_with fail
  go_loopg [0] t.cnt (fun g x wr => ∃ s : Tr, x = s.ptr ∧ s.cnt ≤ g ∧ Hid (Below w.heap.size w wr) ∧ Hid (TreeAt w s) ∧ Hid (withinT s none (some z) = withinT t none (some z)))
  case atStart => exact ⟨t, rfl, Nat.le_refl _, Below.refl _ _, HT.out, rfl⟩
  case round =>
    obtain ⟨s, rfl, hs, HB, HS, HE⟩ := hrel
    cases s with
    | nil =>
      have hf : Ending.returned (.pointer none) = Ending.returned (withinT t none (some z)).ptr := by rw [← HE.out]; rfl
      simp only [Tr.ptr]
      go_wp2
      rw [Exit.noGoto_ret]
      go_ret
      exact ⟨hf, HB.out⟩
    | nd b p l r =>
      cases gk with
      | zero => simp only [Tr.cnt] at hs; omega
      | succ g =>
        simp only [Tr.cnt] at hs
        obtain ⟨⟨pb, hnd, hp⟩, hl, hr⟩ := id HS.out
        have HL := Lib.hid hl
        have HR := Lib.hid hr
        obtain ⟨A2, c2, A2', c2', hpb, hpk, _⟩ := id hp
        replace hpk := hpk.1
        obtain ⟨ul, hul⟩ := l.ptr_pointer
        obtain ⟨ur, hur⟩ := r.ptr_pointer
        rw [hul, hur] at hnd
        have HUL := Lib.hid hul
        have HUR := Lib.hid hur
        have HND := Lib.hid hnd
        have HPB := Lib.hid hpb
        have HPK := Lib.hid hpk
        have c0 := (hnd.next HB.out (Nat.le_refl _)).c0
        have p0 : wr.cell? ⟨pb, 0, none⟩ = some (.slice A2 p.1.length c2) := by rw [HB.out.cell (p := ⟨pb, 0, none⟩) (Array.getElem?_eq_some_iff.1 hpb).1]; simp [World.cell?, hpb]
        have HFD : Hid (withinT (.nd b p l r) none (some z) = if lowOut none p.1 then withinT r none (some z) else if highOut (some z) p.1 then withinT l none (some z) else .nd b p l r) := rfl
        clear hl hr hp hpb hpk hnd hul hur
        simp only [Tr.ptr]
        go_wp2_with fail
        go_quiet (fail)
        clear c0 p0
        obtain ⟨wd, hwd⟩ : ∃ X, wr.drewN nq = X := ⟨_, rfl⟩
        have HB0 := HB
        clear HB
        have HB : Hid (Below w.heap.size w wd) := by show Below _ _ _; rw [← hwd]; exact qb_dn HB0.out nq
        rw [hwd]
        clear hwd HB0
        have c0 := (HND.out.next HB.out (Nat.le_refl _)).c0
        have p0 : wd.cell? ⟨pb, 0, none⟩ = some (.slice A2 p.1.length c2) := by rw [HB.out.cell (p := ⟨pb, 0, none⟩) (Array.getElem?_eq_some_iff.1 HPB.out).1]; simp [World.cell?, HPB.out]
        have h0 := (HHN.out.next HB.out (Nat.le_refl _)).c0
        have h1 : wd.cell? ⟨pbh, 0, none⟩ = some (.slice Ah z.1.length ch) := by rw [HB.out.cell (p := ⟨pbh, 0, none⟩) (Array.getElem?_eq_some_iff.1 HHP.out).1]; simp [World.cell?, HHP.out]
        have HCH := Lib.hid (fun n => (cmpB_any A2 Ah c2 ch p.1 z.1 (wd.drewN n) (slB_up HPK.out (qb_dn HB.out n)) (slB_up HHK.out (qb_dn HB.out n))).mono (R' := fun e w' => e = .returned (.int .i64 (ordL p.1 z.1)) ∧ w' = wd.drewN n) (fun _ _ h => ⟨h.1, h.2.symm⟩))
        obtain ⟨o2, ho2⟩ : ∃ o2, ordL p.1 z.1 = o2 := ⟨_, rfl⟩
        have HO2 := Lib.hid ho2
        rw [ho2] at HCH
        clear ho2
        by_cases g2 : 0 ≤ o2
        · have g2' : decide (0 ≤ o2) = true := decide_eq_true g2
          go_wp2_with fail
          go_quiet (refine Calls.quiet_of_same (HCH.out _))
          clear h0 h1 HCH
          obtain ⟨we, hwd⟩ : ∃ X, wd.drewN nq = X := ⟨_, rfl⟩
          have HB0 := HB
          clear HB
          have HB : Hid (Below w.heap.size w we) := by show Below _ _ _; rw [← hwd]; exact qb_dn HB0.out nq
          rw [hwd]
          clear hwd HB0
          have HFE : Hid (withinT l none (some z) = withinT t none (some z)) := by show _ = _; rw [← HE.out, HFD.out, if_neg (show ¬ lowOut none p.1 from fun h => h), if_pos (show highOut (some z) p.1 by show 0 ≤ ordL p.1 z.1; rw [HO2.out]; exact g2)]
          have cx := (HND.out.next HB.out (Nat.le_refl _)).c1
          clear c0 p0
          go_wp2_with fail
          go_roundg g
          case measure => omega
          case rel => exact ⟨l, HUL.out.symm, by omega, HB.out, HL.out, HFE.out⟩
        · have g2' : decide (0 ≤ o2) = false := decide_eq_false g2
          go_wp2_with fail
          go_quiet (refine Calls.quiet_of_same (HCH.out _))
          clear h0 h1 HCH
          obtain ⟨we, hwd⟩ : ∃ X, wd.drewN nq = X := ⟨_, rfl⟩
          have HB0 := HB
          clear HB
          have HB : Hid (Below w.heap.size w we) := by show Below _ _ _; rw [← hwd]; exact qb_dn HB0.out nq
          rw [hwd]
          clear hwd HB0
          have HFE : Hid (Ending.returned (.pointer (some ⟨b, 0, none⟩)) = Ending.returned (withinT t none (some z)).ptr) := by show _ = _; rw [← HE.out, HFD.out, if_neg (show ¬ lowOut none p.1 from fun h => h), if_neg (show ¬ highOut (some z) p.1 from fun h => by have h9 : 0 ≤ ordL p.1 z.1 := h; rw [HO2.out] at h9; omega)]; rfl
          go_wp2_with fail
          rw [Exit.noGoto_ret]
          go_ret
          exact ⟨HFE.out, HB.out⟩
set_option maxRecDepth 100000 in
set_option maxHeartbeats 4000000 in
theorem within_sn [LT Gb] (t : Tr) (a : Pr) (vl vh : Option Addr) (w : World) (ht : TreeAt w t) (hlo : EdgeAt w vl (some a)) (hhi : EdgeAt w vh none) :
    Calls Try.prog 104 #[t.ptr, .pointer vl, .pointer vh] w fun e w' => e = .returned (withinT t (some a) none).ptr ∧ Below w.heap.size w w' := by
  have HT := Lib.hid ht
  obtain ⟨bl, pbl, ll, lr, ln, rfl, hln, hlp⟩ := hlo
  obtain ⟨Al, cl, Al', cl', hlb, hlk, _⟩ := hlp
  have HLN := Lib.hid hln
  have HLP := Lib.hid hlb
  have HLK := Lib.hid hlk.1
  clear hln hlb hlk
  obtain rfl : vh = none := hhi
  clear ht
  go_enter Try.func104, Try.ntmps104
  go_wp2
  go_step3
  go_wp2
  go_step3
  go_wp2_with fail
  go_loopg [0] t.cnt (fun g x wr => ∃ s : Tr, x = s.ptr ∧ s.cnt ≤ g ∧ Hid (Below w.heap.size w wr) ∧ Hid (TreeAt w s) ∧ Hid (withinT s (some a) none = withinT t (some a) none))
  case atStart => exact ⟨t, rfl, Nat.le_refl _, Below.refl _ _, HT.out, rfl⟩
  case round =>
    obtain ⟨s, rfl, hs, HB, HS, HE⟩ := hrel
    cases s with
    | nil =>
      have hf : Ending.returned (.pointer none) = Ending.returned (withinT t (some a) none).ptr := by rw [← HE.out]; rfl
      simp only [Tr.ptr]
      go_wp2
      rw [Exit.noGoto_ret]
      go_ret
      exact ⟨hf, HB.out⟩
    | nd b p l r =>
      cases gk with
      | zero => simp only [Tr.cnt] at hs; omega
      | succ g =>
        simp only [Tr.cnt] at hs
        obtain ⟨⟨pb, hnd, hp⟩, hl, hr⟩ := id HS.out
        have HL := Lib.hid hl
        have HR := Lib.hid hr
        obtain ⟨A2, c2, A2', c2', hpb, hpk, _⟩ := id hp
        replace hpk := hpk.1
        obtain ⟨ul, hul⟩ := l.ptr_pointer
        obtain ⟨ur, hur⟩ := r.ptr_pointer
        rw [hul, hur] at hnd
        have HUL := Lib.hid hul
        have HUR := Lib.hid hur
        have HND := Lib.hid hnd
        have HPB := Lib.hid hpb
        have HPK := Lib.hid hpk
        have c0 := (hnd.next HB.out (Nat.le_refl _)).c0
        have p0 : wr.cell? ⟨pb, 0, none⟩ = some (.slice A2 p.1.length c2) := by rw [HB.out.cell (p := ⟨pb, 0, none⟩) (Array.getElem?_eq_some_iff.1 hpb).1]; simp [World.cell?, hpb]
        have HFD : Hid (withinT (.nd b p l r) (some a) none = if lowOut (some a) p.1 then withinT r (some a) none else if highOut none p.1 then withinT l (some a) none else .nd b p l r) := rfl
        have l0 := (HLN.out.next HB.out (Nat.le_refl _)).c0
        have l1 : wr.cell? ⟨pbl, 0, none⟩ = some (.slice Al a.1.length cl) := by rw [HB.out.cell (p := ⟨pbl, 0, none⟩) (Array.getElem?_eq_some_iff.1 HLP.out).1]; simp [World.cell?, HLP.out]
        have HCL := Lib.hid (fun n => (cmpB_any A2 Al c2 cl p.1 a.1 (wr.drewN n) (slB_up HPK.out (qb_dn HB.out n)) (slB_up HLK.out (qb_dn HB.out n))).mono (R' := fun e w' => e = .returned (.int .i64 (ordL p.1 a.1)) ∧ w' = wr.drewN n) (fun _ _ h => ⟨h.1, h.2.symm⟩))
        obtain ⟨o, ho⟩ : ∃ o, ordL p.1 a.1 = o := ⟨_, rfl⟩
        have HO := Lib.hid ho
        rw [ho] at HCL
        clear ho
        clear hl hr hp hpb hpk hnd hul hur
        simp only [Tr.ptr]
        by_cases g1 : o ≤ 0
        · have g1' : decide (o ≤ 0) = true := decide_eq_true g1
          go_wp2_with fail
          go_quiet (refine Calls.quiet_of_same (HCL.out _))
          clear l0 l1 HCL
          obtain ⟨wd, hwd⟩ : ∃ X, wr.drewN nq = X := ⟨_, rfl⟩
          have HB0 := HB
          clear HB
          have HB : Hid (Below w.heap.size w wd) := by show Below _ _ _; rw [← hwd]; exact qb_dn HB0.out nq
          rw [hwd]
          clear hwd HB0
          have HFE : Hid (withinT r (some a) none = withinT t (some a) none) := by show _ = _; rw [← HE.out, HFD.out, if_pos (show lowOut (some a) p.1 by show ordL p.1 a.1 ≤ 0; rw [HO.out]; exact g1)]
          have cx := (HND.out.next HB.out (Nat.le_refl _)).c2
          clear c0 p0
          go_wp2_with fail
          go_roundg g
          case measure => omega
          case rel => exact ⟨r, HUR.out.symm, by omega, HB.out, HR.out, HFE.out⟩
        · have g1' : decide (o ≤ 0) = false := decide_eq_false g1
          go_wp2_with fail
          go_quiet (refine Calls.quiet_of_same (HCL.out _))
          clear l0 l1 HCL c0 p0
          obtain ⟨wd, hwd⟩ : ∃ X, wr.drewN nq = X := ⟨_, rfl⟩
          have HB0 := HB
          clear HB
          have HB : Hid (Below w.heap.size w wd) := by show Below _ _ _; rw [← hwd]; exact qb_dn HB0.out nq
          rw [hwd]
          clear hwd HB0
          have c0 := (HND.out.next HB.out (Nat.le_refl _)).c0
          have p0 : wd.cell? ⟨pb, 0, none⟩ = some (.slice A2 p.1.length c2) := by rw [HB.out.cell (p := ⟨pb, 0, none⟩) (Array.getElem?_eq_some_iff.1 HPB.out).1]; simp [World.cell?, HPB.out]
          go_wp2_with fail
          go_quiet (fail)
          obtain ⟨we, hwd⟩ : ∃ X, wd.drewN nq = X := ⟨_, rfl⟩
          have HB0 := HB
          clear HB
          have HB : Hid (Below w.heap.size w we) := by show Below _ _ _; rw [← hwd]; exact qb_dn HB0.out nq
          rw [hwd]
          clear hwd HB0
          have HFE : Hid (Ending.returned (.pointer (some ⟨b, 0, none⟩)) = Ending.returned (withinT t (some a) none).ptr) := by show _ = _; rw [← HE.out, HFD.out, if_neg (show ¬ lowOut (some a) p.1 from fun h => by have h9 : ordL p.1 a.1 ≤ 0 := h; rw [HO.out] at h9; omega), if_neg (show ¬ highOut none p.1 from fun h => h)]; rfl
          go_wp2_with fail
          rw [Exit.noGoto_ret]
          go_ret
          exact ⟨HFE.out, HB.out⟩
set_option maxRecDepth 100000 in
set_option maxHeartbeats 4000000 in
theorem within_ss [LT Gb] (t : Tr) (a : Pr) (z : Pr) (vl vh : Option Addr) (w : World) (ht : TreeAt w t) (hlo : EdgeAt w vl (some a)) (hhi : EdgeAt w vh (some z)) :
    Calls Try.prog 104 #[t.ptr, .pointer vl, .pointer vh] w fun e w' => e = .returned (withinT t (some a) (some z)).ptr ∧ Below w.heap.size w w' := by
  have HT := Lib.hid ht
  obtain ⟨bl, pbl, ll, lr, ln, rfl, hln, hlp⟩ := hlo
  obtain ⟨Al, cl, Al', cl', hlb, hlk, _⟩ := hlp
  have HLN := Lib.hid hln
  have HLP := Lib.hid hlb
  have HLK := Lib.hid hlk.1
  clear hln hlb hlk
  obtain ⟨bh, pbh, hl, hr, hn, rfl, hhn, hhp⟩ := hhi
  obtain ⟨Ah, ch, Ah', ch', hhb, hhk, _⟩ := hhp
  have HHN := Lib.hid hhn
  have HHP := Lib.hid hhb
  have HHK := Lib.hid hhk.1
  clear hhn hhb hhk
  clear ht
  go_enter Try.func104, Try.ntmps104
  go_wp2
  go_step3
  go_wp2
  go_step3
  go_wp2_with fail
  go_loopg [0] t.cnt (fun g x wr => ∃ s : Tr, x = s.ptr ∧ s.cnt ≤ g ∧ Hid (Below w.heap.size w wr) ∧ Hid (TreeAt w s) ∧ Hid (withinT s (some a) (some z) = withinT t (some a) (some z)))
  case atStart => exact ⟨t, rfl, Nat.le_refl _, Below.refl _ _, HT.out, rfl⟩
  case round =>
    obtain ⟨s, rfl, hs, HB, HS, HE⟩ := hrel
    cases s with
    | nil =>
      have hf : Ending.returned (.pointer none) = Ending.returned (withinT t (some a) (some z)).ptr := by rw [← HE.out]; rfl
      simp only [Tr.ptr]
      go_wp2
      rw [Exit.noGoto_ret]
      go_ret
      exact ⟨hf, HB.out⟩
    | nd b p l r =>
      cases gk with
      | zero => simp only [Tr.cnt] at hs; omega
      | succ g =>
        simp only [Tr.cnt] at hs
        obtain ⟨⟨pb, hnd, hp⟩, hl, hr⟩ := id HS.out
        have HL := Lib.hid hl
        have HR := Lib.hid hr
        obtain ⟨A2, c2, A2', c2', hpb, hpk, _⟩ := id hp
        replace hpk := hpk.1
        obtain ⟨ul, hul⟩ := l.ptr_pointer
        obtain ⟨ur, hur⟩ := r.ptr_pointer
        rw [hul, hur] at hnd
        have HUL := Lib.hid hul
        have HUR := Lib.hid hur
        have HND := Lib.hid hnd
        have HPB := Lib.hid hpb
        have HPK := Lib.hid hpk
        have c0 := (hnd.next HB.out (Nat.le_refl _)).c0
        have p0 : wr.cell? ⟨pb, 0, none⟩ = some (.slice A2 p.1.length c2) := by rw [HB.out.cell (p := ⟨pb, 0, none⟩) (Array.getElem?_eq_some_iff.1 hpb).1]; simp [World.cell?, hpb]
        have HFD : Hid (withinT (.nd b p l r) (some a) (some z) = if lowOut (some a) p.1 then withinT r (some a) (some z) else if highOut (some z) p.1 then withinT l (some a) (some z) else .nd b p l r) := rfl
        have l0 := (HLN.out.next HB.out (Nat.le_refl _)).c0
        have l1 : wr.cell? ⟨pbl, 0, none⟩ = some (.slice Al a.1.length cl) := by rw [HB.out.cell (p := ⟨pbl, 0, none⟩) (Array.getElem?_eq_some_iff.1 HLP.out).1]; simp [World.cell?, HLP.out]
        have HCL := Lib.hid (fun n => (cmpB_any A2 Al c2 cl p.1 a.1 (wr.drewN n) (slB_up HPK.out (qb_dn HB.out n)) (slB_up HLK.out (qb_dn HB.out n))).mono (R' := fun e w' => e = .returned (.int .i64 (ordL p.1 a.1)) ∧ w' = wr.drewN n) (fun _ _ h => ⟨h.1, h.2.symm⟩))
        obtain ⟨o, ho⟩ : ∃ o, ordL p.1 a.1 = o := ⟨_, rfl⟩
        have HO := Lib.hid ho
        rw [ho] at HCL
        clear ho
        clear hl hr hp hpb hpk hnd hul hur
        simp only [Tr.ptr]
        by_cases g1 : o ≤ 0
        · have g1' : decide (o ≤ 0) = true := decide_eq_true g1
          go_wp2_with fail
          go_quiet (refine Calls.quiet_of_same (HCL.out _))
          clear l0 l1 HCL
          obtain ⟨wd, hwd⟩ : ∃ X, wr.drewN nq = X := ⟨_, rfl⟩
          have HB0 := HB
          clear HB
          have HB : Hid (Below w.heap.size w wd) := by show Below _ _ _; rw [← hwd]; exact qb_dn HB0.out nq
          rw [hwd]
          clear hwd HB0
          have HFE : Hid (withinT r (some a) (some z) = withinT t (some a) (some z)) := by show _ = _; rw [← HE.out, HFD.out, if_pos (show lowOut (some a) p.1 by show ordL p.1 a.1 ≤ 0; rw [HO.out]; exact g1)]
          have cx := (HND.out.next HB.out (Nat.le_refl _)).c2
          clear c0 p0
          go_wp2_with fail
          go_roundg g
          case measure => omega
          case rel => exact ⟨r, HUR.out.symm, by omega, HB.out, HR.out, HFE.out⟩
        · have g1' : decide (o ≤ 0) = false := decide_eq_false g1
          go_wp2_with fail
          go_quiet (refine Calls.quiet_of_same (HCL.out _))
          clear l0 l1 HCL c0 p0
          obtain ⟨wd, hwd⟩ : ∃ X, wr.drewN nq = X := ⟨_, rfl⟩
          have HB0 := HB
          clear HB
          have HB : Hid (Below w.heap.size w wd) := by show Below _ _ _; rw [← hwd]; exact qb_dn HB0.out nq
          rw [hwd]
          clear hwd HB0
          have c0 := (HND.out.next HB.out (Nat.le_refl _)).c0
          have p0 : wd.cell? ⟨pb, 0, none⟩ = some (.slice A2 p.1.length c2) := by rw [HB.out.cell (p := ⟨pb, 0, none⟩) (Array.getElem?_eq_some_iff.1 HPB.out).1]; simp [World.cell?, HPB.out]
          have h0 := (HHN.out.next HB.out (Nat.le_refl _)).c0
          have h1 : wd.cell? ⟨pbh, 0, none⟩ = some (.slice Ah z.1.length ch) := by rw [HB.out.cell (p := ⟨pbh, 0, none⟩) (Array.getElem?_eq_some_iff.1 HHP.out).1]; simp [World.cell?, HHP.out]
          have HCH := Lib.hid (fun n => (cmpB_any A2 Ah c2 ch p.1 z.1 (wd.drewN n) (slB_up HPK.out (qb_dn HB.out n)) (slB_up HHK.out (qb_dn HB.out n))).mono (R' := fun e w' => e = .returned (.int .i64 (ordL p.1 z.1)) ∧ w' = wd.drewN n) (fun _ _ h => ⟨h.1, h.2.symm⟩))
          obtain ⟨o2, ho2⟩ : ∃ o2, ordL p.1 z.1 = o2 := ⟨_, rfl⟩
          have HO2 := Lib.hid ho2
          rw [ho2] at HCH
          clear ho2
          by_cases g2 : 0 ≤ o2
          · have g2' : decide (0 ≤ o2) = true := decide_eq_true g2
            go_wp2_with fail
            go_quiet (refine Calls.quiet_of_same (HCH.out _))
            clear h0 h1 HCH
            obtain ⟨we, hwd⟩ : ∃ X, wd.drewN nq = X := ⟨_, rfl⟩
            have HB0 := HB
            clear HB
            have HB : Hid (Below w.heap.size w we) := by show Below _ _ _; rw [← hwd]; exact qb_dn HB0.out nq
            rw [hwd]
            clear hwd HB0
            have HFE : Hid (withinT l (some a) (some z) = withinT t (some a) (some z)) := by show _ = _; rw [← HE.out, HFD.out, if_neg (show ¬ lowOut (some a) p.1 from fun h => by have h9 : ordL p.1 a.1 ≤ 0 := h; rw [HO.out] at h9; omega), if_pos (show highOut (some z) p.1 by show 0 ≤ ordL p.1 z.1; rw [HO2.out]; exact g2)]
            have cx := (HND.out.next HB.out (Nat.le_refl _)).c1
            clear c0 p0
            go_wp2_with fail
            go_roundg g
            case measure => omega
            case rel => exact ⟨l, HUL.out.symm, by omega, HB.out, HL.out, HFE.out⟩
          · have g2' : decide (0 ≤ o2) = false := decide_eq_false g2
            go_wp2_with fail
            go_quiet (refine Calls.quiet_of_same (HCH.out _))
            clear h0 h1 HCH
            obtain ⟨we, hwd⟩ : ∃ X, wd.drewN nq = X := ⟨_, rfl⟩
            have HB0 := HB
            clear HB
            have HB : Hid (Below w.heap.size w we) := by show Below _ _ _; rw [← hwd]; exact qb_dn HB0.out nq
            rw [hwd]
            clear hwd HB0
            have HFE : Hid (Ending.returned (.pointer (some ⟨b, 0, none⟩)) = Ending.returned (withinT t (some a) (some z)).ptr) := by show _ = _; rw [← HE.out, HFD.out, if_neg (show ¬ lowOut (some a) p.1 from fun h => by have h9 : ordL p.1 a.1 ≤ 0 := h; rw [HO.out] at h9; omega), if_neg (show ¬ highOut (some z) p.1 from fun h => by have h9 : 0 ≤ ordL p.1 z.1 := h; rw [HO2.out] at h9; omega)]; rfl
            go_wp2_with fail
            rw [Exit.noGoto_ret]
            go_ret
            exact ⟨HFE.out, HB.out⟩
theorem within_any [LT Gb] (t : Tr) (lo hi : Option Pr) (vl vh : Option Addr) (w : World) (ht : TreeAt w t) (hlo : EdgeAt w vl lo) (hhi : EdgeAt w vh hi) :
    Calls Try.prog 104 #[t.ptr, .pointer vl, .pointer vh] w fun e w' => e = .returned (withinT t lo hi).ptr ∧ Below w.heap.size w w' := by
  cases lo with
  | none => cases hi with
    | none => exact within_nn t vl vh w ht hlo hhi
    | some z => exact within_ns t z vl vh w ht hlo hhi
  | some a => cases hi with
    | none => exact within_sn t a vl vh w ht hlo hhi
    | some z => exact within_ss t a z vl vh w ht hlo hhi
set_option maxRecDepth 100000 in
set_option maxHeartbeats 4000000 in
theorem has_any [LT Gb] (t : Tr) (pb : Nat) (x : Pr) (w : World) (ht : TreeAt w t) (hx : PairAt w pb x) :
    Calls Try.prog 105 #[t.ptr, .pointer (some ⟨pb, 0, none⟩)] w fun e w' => e = .returned (.bool (hasT t x)) ∧ Below w.heap.size w w' := by
  obtain ⟨A, c, A', c', hpb, hk, hv⟩ := id hx
  replace hk := hk.1
  replace hv := hv.1
  have HF := Lib.hid (find_any t w.heap.size A c x.1 w ht hk)
  have k0 : w.cell? ⟨pb, 0, none⟩ = some (.slice A x.1.length c) := by simp [World.cell?, hpb]
  have k1 : w.cell? ⟨pb, 1, none⟩ = some (.slice A' x.2.length c') := by simp [World.cell?, hpb]
  have hfa := findT_at (k := x.1) ht
  obtain ⟨u, hu⟩ := t.ptr_pointer
  rw [hu] at HF ⊢
  cases hf : findT t x.1 with
  | nil =>
    rw [hf] at HF
    have hh : hasT t x = false := by unfold hasT; rw [hf]
    have HH := Lib.hid hh
    clear hx hpb hk hv ht hu hf hfa hh
    go_enter Try.func105, Try.ntmps105
    go_wp2_with fail
    refine HF.out.mono ?_
    rintro e w' ⟨rfl, rfl⟩
    simp only [Tr.ptr]
    go_wp2_with fail
    go_quiet (fail)
    go_wp2
    go_ret
    exact ⟨by rw [HH.out]; rfl, qb_dn (Below.refl _ _) _⟩
  | nd b p l r =>
    rw [hf] at HF hfa
    have hh : hasT t x = (p.2 == x.2) := by unfold hasT; rw [hf]
    obtain ⟨⟨qb, hnd, hq⟩, _, _⟩ := hfa
    obtain ⟨A2, c2, A2', c2', hqb, _, hqv⟩ := id hq
    replace hqv := hqv.1
    have c0 := hnd.c0
    have q1 : w.cell? ⟨qb, 1, none⟩ = some (.slice A2' p.2.length c2') := by simp [World.cell?, hqb]
    have HEQ := Lib.hid (fun n => (eqB_any A2' A' c2' c' p.2 x.2 (w.drewN n) hqv hv).mono (R' := fun e w' => e = .returned (.bool (p.2 == x.2)) ∧ w' = w.drewN n) (fun _ _ h => ⟨h.1, h.2.symm⟩))
    obtain ⟨bb, hbb⟩ : ∃ bb, (p.2 == x.2) = bb := ⟨_, rfl⟩
    rw [hbb] at HEQ hh
    have HH := Lib.hid hh
    clear hx hpb hk hv ht hu hf hh hbb hnd hq hqb hqv
    go_enter Try.func105, Try.ntmps105
    go_wp2_with fail
    refine HF.out.mono ?_
    rintro e w' ⟨rfl, rfl⟩
    simp only [Tr.ptr]
    go_wp2_with fail
    go_quiet (refine Calls.quiet_of_same (HEQ.out _))
    go_wp2
    go_ret
    exact ⟨by rw [HH.out]; rfl, qb_dn (Below.refl _ _) _⟩
end Go.Proofs.Ytohpilamoglhcaa
