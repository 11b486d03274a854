/-
  CONTRACT: the law's told.
-/
import Derived.Test.YtofmfainhflmmaaJZTold
namespace Go.Proofs.Ytofmfainhflmmaa
open Go.RowKit

/-- what stands while an answer is written over -/
structure TlS (w : World) (B M b4 : Nat) (A1 A2 : Option Addr) (n1 c1 c2 : Nat) (R : List Rw) (W : World) : Prop where
  a0 : W.cell? ⟨b4, 0, none⟩ = some (.slice A1 n1 c1)
  a1 : W.cell? ⟨b4, 1, none⟩ = some (.slice A2 R.length c2)
  s : Sl1 cellR W M A2 R
  i : ∀ x ∈ R, WrN W B M x.A (x.l.length * 3)
  c : WrN W B M A1 n1
  b : Below B w W
theorem Sl1.set {α : Type} {e : α → Value} {W : World} {M : Nat} {A : Option Addr} {l : List α} (h : Sl1 e W M A l) (p : Addr) (u : Value) (hp : l ≠ [] → ∀ a, A = some a → a.block ≠ p.block) : Sl1 e (W.setCell p u) M A l := fun hl => by
  obtain ⟨b, o, e1, h1, h2⟩ := h hl
  refine ⟨b, o, e1, h1, fun j x hx => ?_⟩
  rw [World.cell?_of_block (w := W) (Below.heap_setCell W p u b (hp hl _ e1))]
  exact h2 j x hx
theorem TlS.set {w W : World} {B M b4 : Nat} {A1 A2 : Option Addr} {n1 c1 c2 : Nat} {R : List Rw} (h : TlS w B M b4 A1 A2 n1 c1 c2 R W) (p : Addr) (u : Value) (hM : M ≤ b4) (hB : B ≤ p.block) (hp : p.block < M) (hs : R ≠ [] → ∀ a, A2 = some a → a.block ≠ p.block) : TlS w B M b4 A1 A2 n1 c1 c2 R (W.setCell p u) := by
  have hk := Below.heap_setCell W p u b4 (by omega)
  exact ⟨(World.cell?_of_block (w := W) (a := ⟨b4, 0, none⟩) hk).trans h.a0, (World.cell?_of_block (w := W) (a := ⟨b4, 1, none⟩) hk).trans h.a1, h.s.set p u hs, fun x hx => (h.i x hx).set p u, h.c.set p u, h.b.setCell hB u⟩
theorem TlS.next {w W W' : World} {B M b4 : Nat} {A1 A2 : Option Addr} {n1 c1 c2 : Nat} {R : List Rw} (h : TlS w B M b4 A1 A2 n1 c1 c2 R W) (hM : M ≤ b4) (hb4 : b4 < W.heap.size) (hBM : B ≤ M) (hb : Below W.heap.size W W') : TlS w B M b4 A1 A2 n1 c1 c2 R W' :=
  ⟨(hb.cell (p := ⟨b4, 0, none⟩) hb4).trans h.a0, (hb.cell (p := ⟨b4, 1, none⟩) hb4).trans h.a1, h.s.next hb (by omega), fun x hx => (h.i x hx).next (hb.mono (by omega)), h.c.next (hb.mono (by omega)), h.b.trans (hb.mono (by omega))⟩

set_option maxRecDepth 100000 in
set_option maxHeartbeats 4000000 in
theorem told_any (vc vr : Value) (cols : List ByteArray) (R : List Rw) (A3 A4 : Option Addr) (c3 c4 : Nat) (l2 : List ByteArray) (R2 : List Rw) (e1 e2 : Int) (w : World) (B : Nat) (hB : B ≤ w.heap.size)
    (hc : OwnC w B vc cols) (hr : AnsR w B vr R) (hs2 : SlC w w.heap.size A3 l2) (hr2 : SlR w w.heap.size A4 R2) (hl1 : cols.length ≤ 1000000000) (hl2 : l2.length ≤ 1000000000) (hl3 : R.length ≤ 1000000000) (hl4 : R2.length ≤ 1000000000) (hl5 : ∀ r ∈ R, r.l.length ≤ 1000000000) (hcr : ∀ b1 b2 n1 k1 n2 k2, vc = .slice (some b1) n1 k1 → vr = .slice (some b2) n2 k2 → b1.block ≠ b2.block) :
    Calls Try.prog 24 #[.agg #[vc, vr], .int .i64 e1, .agg #[.slice A3 l2.length c3, .slice A4 R2.length c4], .int .i64 e2] w fun e w' => e = .returned (.bool ((e1 == e2) && sameB cols l2 (txR R) (txR R2))) ∧ Below B w w' := by
  obtain ⟨A1, c1, rfl, hs1, _, _, _, hg1⟩ := hc.form
  obtain ⟨A2, c2, rfl, hs, hlc, hcm, hn, hap⟩ := hr.f
  have hr1 : SlR w w.heap.size A2 R := ⟨hs, fun x hx => (hr.i x hx).rwOk (hr.z x hx)⟩
  have HCALL := Lib.hid (fun W (hb : Below w.heap.size w W) => sameRel_any A1 A2 A3 A4 c1 c2 c3 c4 cols l2 R R2 W (hs1.up hb (Nat.le_refl _)) (hs2.up hb (Nat.le_refl _)) (hr1.up hb (Nat.le_refl _)) (hr2.up hb (Nat.le_refl _)) hl1 hl2 hl3 hl4)
  have HAP := Lib.hid hap
  have HL5 := Lib.hid hl5
  have HCR := Lib.hid hcr
  clear hcr
  have hWi : ∀ x ∈ R, WrN w B w.heap.size x.A (x.l.length * 3) := fun x hx => owns_wr (hr.i x hx) (flatV_len _)
  have hWc : WrN w B w.heap.size A1 cols.length := by
    have h := owns_wr (k := 1) (show w.ownsRow B 9 1 (.slice A1 cols.length c1) cols.length (cols.map strV) from hc) (by simp)
    rwa [Nat.mul_one] at h
  obtain ⟨n2, hn2⟩ : ∃ n, l2.length = n := ⟨_, rfl⟩
  obtain ⟨n4, hn4⟩ : ∃ n, R2.length = n := ⟨_, rfl⟩
  rw [hn2, hn4] at HCALL
  rw [hn2, hn4]
  obtain ⟨q, hq⟩ : ∃ q, sameB cols l2 (txR R) (txR R2) = q := ⟨_, rfl⟩
  rw [hq] at HCALL ⊢
  obtain ⟨wa, hwa⟩ : ∃ wa, w.alloc (.cells #[.slice A1 cols.length c1, .slice A2 R.length c2] 34) = wa := ⟨_, rfl⟩
  have hza : wa.heap.size = w.heap.size + 1 := by rw [← hwa]; simp
  have hba : Below w.heap.size w wa := by rw [← hwa]; exact (Below.refl _ _).alloc (Nat.le_refl _) _
  have a0 : wa.cell? ⟨w.heap.size, 0, none⟩ = some (.slice A1 cols.length c1) := by rw [← hwa, World.cell?_alloc_new]; rfl
  have a1 : wa.cell? ⟨w.heap.size, 1, none⟩ = some (.slice A2 R.length c2) := by rw [← hwa, World.cell?_alloc_new]; rfl
  obtain ⟨wb, hwb⟩ : ∃ wb, wa.alloc (.cells #[.slice A3 n2 c3, .slice A4 n4 c4] 43) = wb := ⟨_, rfl⟩
  have hzb : wb.heap.size = wa.heap.size + 1 := by rw [← hwb]; simp
  have hbb : Below wa.heap.size wa wb := by rw [← hwb]; exact (Below.refl _ _).alloc (Nat.le_refl _) _
  have b0 : wb.cell? ⟨wa.heap.size, 0, none⟩ = some (.slice A3 n2 c3) := by rw [← hwb, World.cell?_alloc_new]; rfl
  have b1 : wb.cell? ⟨wa.heap.size, 1, none⟩ = some (.slice A4 n4 c4) := by rw [← hwb, World.cell?_alloc_new]; rfl
  have hla : w.heap.size < wa.heap.size := by omega
  have hlb : wa.heap.size < wb.heap.size := by omega
  have a0 := (hbb.cell (p := ⟨w.heap.size, 0, none⟩) hla).trans a0
  have a1 := (hbb.cell (p := ⟨w.heap.size, 1, none⟩) hla).trans a1
  have HBB : Hid (Below w.heap.size w wb) := hba.trans (hbb.mono hba.size)
  have HTS : Hid (TlS w B w.heap.size w.heap.size A1 A2 cols.length c1 c2 R wb) := ⟨a0, a1, hs.next HBB.out (Nat.le_refl _), fun x hx => (hWi x hx).next HBB.out, hWc.next HBB.out, HBB.out.mono hB⟩
  have HCELL := Lib.hid (show wb.cell? ⟨w.heap.size, 0, none⟩ = some (.slice A1 cols.length c1) ∧ wb.cell? ⟨w.heap.size, 1, none⟩ = some (.slice A2 R.length c2) ∧ wb.cell? ⟨wa.heap.size, 0, none⟩ = some (.slice A3 n2 c3) ∧ wb.cell? ⟨wa.heap.size, 1, none⟩ = some (.slice A4 n4 c4) ∧ w.heap.size < wb.heap.size ∧ wa.heap.size < wb.heap.size from ⟨a0, a1, b0, b1, by omega, by omega⟩)
  clear hza hba hzb hbb hla hlb a0 a1 b0 b1 hWi hWc hap hl5 hs hr1 hs1 hg1 hs2 hr2 hc hr hq
  by_cases he : e1 = e2
  · have hei : (e1 == e2) = true := by rw [he]; exact beq_self_eq_true _
    have HRES : Hid (((e1 == e2) && q) = q) := by show _ = _; rw [hei]; rfl
    have hn3 : l2.length = n2 := hn2
    clear hn2 hn4 he hn3
    go_enter Try.func24, Try.ntmps24
    go_wp2_with fail
    clear hwa hwb
    obtain ⟨wd, hwd⟩ : ∃ wd, wb.drew = wd := ⟨_, rfl⟩
    have HSN : Hid (Snc wb wd) := by show Snc _ _; rw [← hwd]; exact (Below.refl _ _).drew
    refine wp_region_held_drew (S := Snc wb) (by kernel_rfl) (by rw [hwd]; exact HSN.out) (fun hHeld => ?_)
    rw [hwd] at hHeld ⊢
    clear hwd
    refine takeV 0 (some 13) ((.int .i64 e1)) rfl rfl (by kernel_rfl) (by kernel_rfl) (by kernel_rfl) (fun _ _ _ h => h) (by rfl) (by (intro _w _hSw; (try dsimp only at _hSw); go_simp)) (by assumption) ?_
    simp only [Act.put, List.setIfInBounds_toArray, List.set_cons_zero, List.set_cons_succ]
    refine takeV 1 (some 14) ((.int .i64 e2)) rfl rfl (by kernel_rfl) (by kernel_rfl) (by kernel_rfl) (fun _ _ _ h => h) (by rfl) (by (intro _w _hSw; (try dsimp only at _hSw); go_simp)) (by assumption) ?_
    simp only [Act.put, List.setIfInBounds_toArray, List.set_cons_zero, List.set_cons_succ]
    refine takeV 2 (some 15) ((.bool true)) rfl rfl (by kernel_rfl) (by kernel_rfl) (by kernel_rfl) (fun _ _ _ h => h) (by rfl) (by (intro _w _hSw; (try dsimp only at _hSw); go_simp)) (by assumption) ?_
    simp only [Act.put, List.setIfInBounds_toArray, List.set_cons_zero, List.set_cons_succ]
    refine takeV 3 (some 16) ((.bool true)) rfl rfl (by kernel_rfl) (by kernel_rfl) (by kernel_rfl) (fun _ _ _ h => h) (by rfl) (by (intro _w _hSw; (try dsimp only at _hSw); go_simp)) (by assumption) ?_
    simp only [Act.put, List.setIfInBounds_toArray, List.set_cons_zero, List.set_cons_succ]
    refine takeV 4 (some 17) ((.agg #[.slice A1 cols.length c1, .slice A2 R.length c2])) rfl rfl (by kernel_rfl) (by kernel_rfl) (by kernel_rfl) (fun _ _ _ h => h) (by rfl) (by (intro _w hSw; have k0 := (Below.cell (p := ⟨w.heap.size, 0, none⟩) hSw HCELL.out.2.2.2.2.1).trans HCELL.out.1; have k1 := (Below.cell (p := ⟨w.heap.size, 1, none⟩) hSw HCELL.out.2.2.2.2.1).trans HCELL.out.2.1; clear hSw; go_simp)) (by assumption) ?_
    simp only [Act.put, List.setIfInBounds_toArray, List.set_cons_zero, List.set_cons_succ]
    refine takeV 6 (some 19) ((.agg #[.slice A3 n2 c3, .slice A4 n4 c4])) rfl rfl (by kernel_rfl) (by kernel_rfl) (by kernel_rfl) (fun _ _ _ h => h) (by rfl) (by (intro _w hSw; have k0 := (Below.cell (p := ⟨wa.heap.size, 0, none⟩) hSw HCELL.out.2.2.2.2.2).trans HCELL.out.2.2.1; have k1 := (Below.cell (p := ⟨wa.heap.size, 1, none⟩) hSw HCELL.out.2.2.2.2.2).trans HCELL.out.2.2.2.1; clear hSw; go_simp)) (by assumption) ?_
    simp only [Act.put, List.setIfInBounds_toArray, List.set_cons_zero, List.set_cons_succ]
    refine callV 5 rfl (by kernel_rfl) (by rfl) (fun K hK => ?_)
    go_simp
    refine (ref_any _ _ _ _ _ _ _ _ rfl rfl _).mono ?_
    rintro e w3 ⟨rfl, hb3⟩
    refine hK.out _ _ (hHeld.next hb3) (fun hHeld3 => ?_)
    clear hK K hHeld hb3
    try simp only [Act.put, List.setIfInBounds_toArray, List.set_cons_zero, List.set_cons_succ]
    refine callV 7 rfl (by kernel_rfl) (by rfl) (fun K hK => ?_)
    go_simp
    refine (HCALL.out _ (HBB.out.trans (Below.mono hHeld3 HBB.out.size))).mono ?_
    rintro e w5 ⟨rfl, hb5⟩
    have HT5 : Hid (TlS w B w.heap.size w.heap.size A1 A2 cols.length c1 c2 R w5) := HTS.out.next (Nat.le_refl _) HCELL.out.2.2.2.2.1 hB (hHeld3.next hb5)
    refine hK.out _ _ (hHeld3.next hb5) (fun _ => ?_)
    clear hK K hHeld3 hb5
    try simp only [Act.put, List.setIfInBounds_toArray, List.set_cons_zero, List.set_cons_succ]
    refine takeV 8 (some 21) ((.bool q)) rfl rfl (by kernel_rfl) (by kernel_rfl) (by kernel_rfl) (fun _ _ _ h => h) (by rfl) (by (intro _w _hSw; (try dsimp only at _hSw); go_simp)) (by assumption) ?_
    simp only [Act.put, List.setIfInBounds_toArray, List.set_cons_zero, List.set_cons_succ]
    refine takeV 9 (some 9) ((.bool q)) rfl rfl (by kernel_rfl) (by kernel_rfl) (by kernel_rfl) (fun _ _ _ h => h) (by rfl) (by (intro _w _hSw; (try dsimp only at _hSw); go_simp)) (by assumption) ?_
    simp only [Act.put, List.setIfInBounds_toArray, List.set_cons_zero, List.set_cons_succ]
    refine wpAnyH_done (by kernel_rfl) ?_ _
    have a1 := HT5.out.a1
    go_wp2
    go_loopg [25] R.length (fun g x25 wr => ∃ j : Nat, x25 = .int .i64 j ∧ j + g = R.length ∧ Hid (TlS w B w.heap.size w.heap.size A1 A2 cols.length c1 c2 R wr))
    case atStart => exact ⟨0, rfl, by omega, HT5.out⟩
    case round =>
      obtain ⟨j, rfl, hj, HT⟩ := hrel
      have a1 := HT.out.a1
      obtain ⟨wo, hwo⟩ : ∃ wo, wo = wr := ⟨_, rfl⟩
      subst hwo
      cases gk with
      | succ g =>
        have hji : (j : Int) < (R.length : Int) := by omega
        have hjn : j < R.length := by omega
        obtain ⟨bR, oR, rfl, hbR, hp⟩ := HT.out.s.at_ hjn
        have HRJ : Hid (R[j]? = some R[j]) := List.getElem?_eq_getElem hjn
        obtain ⟨x, hx⟩ : ∃ x, R[j] = x := ⟨_, rfl⟩
        rw [hx] at hp HRJ
        have HXM : Hid (x ∈ R) := List.mem_of_getElem? HRJ.out
        have hxl := HL5.out x HXM.out
        have HCL : Hid (∀ W, TlS w B w.heap.size w.heap.size A1 (some (⟨bR, oR, none⟩ : Addr)) cols.length c1 c2 R W → W.cell? ⟨bR, oR + j, none⟩ = some (.slice x.A x.l.length x.c)) := fun W h => h.s.cell HRJ.out
        unfold cellR at hp
        clear hx
        go_wp2
        go_loopg [34] x.l.length (fun g x34 wr => ∃ k : Nat, x34 = .int .i64 k ∧ k + g = x.l.length ∧ Hid (TlS w B w.heap.size w.heap.size A1 (some (⟨bR, oR, none⟩ : Addr)) cols.length c1 c2 R wr))
        case atStart => exact ⟨0, rfl, by omega, HT.out⟩
        case round =>
          obtain ⟨k, rfl, hk, HU⟩ := hrel
          have a1 := HU.out.a1
          have p1 := HCL.out _ HU.out
          cases gk with
          | succ g =>
            have hki : (k : Int) < (x.l.length : Int) := by omega
            have hkn : k < x.l.length := by omega
            obtain ⟨bi, hbi, hB1, hM1, hcs⟩ := HU.out.i x HXM.out (by omega)
            obtain ⟨⟨s0, g0⟩, ⟨s1, g1⟩, s2, g2⟩ := show ((wr.cell? ⟨bi, k * 3, none⟩).isSome = true ∧ wr.frozen? ⟨bi, k * 3, none⟩ = false) ∧ ((wr.cell? ⟨bi, k * 3 + 1, none⟩).isSome = true ∧ wr.frozen? ⟨bi, k * 3 + 1, none⟩ = false) ∧ ((wr.cell? ⟨bi, k * 3 + 2, none⟩).isSome = true ∧ wr.frozen? ⟨bi, k * 3 + 2, none⟩ = false) from ⟨hcs (k * 3) (by omega), hcs (k * 3 + 1) (by omega), hcs (k * 3 + 2) (by omega)⟩
            obtain ⟨v0, s0⟩ := Option.isSome_iff_exists.1 s0
            obtain ⟨v1, s1⟩ := Option.isSome_iff_exists.1 s1
            obtain ⟨v2, s2⟩ := Option.isSome_iff_exists.1 s2
            have HNE : Hid (R ≠ [] → ∀ a, some (⟨bR, oR, none⟩ : Addr) = some a → a.block ≠ bi) := fun _ a e => by
              have h := HAP.out x HXM.out (fun e => by rw [e] at hkn; simp at hkn) a ⟨bi, 0, none⟩ e hbi
              exact h
            have HUN : Hid (TlS w B w.heap.size w.heap.size A1 (some (⟨bR, oR, none⟩ : Addr)) cols.length c1 c2 R (((wr.setCell ⟨bi, k * 3, none⟩ (.int .i64 99)).setCell ⟨bi, k * 3 + 1, none⟩ (.int .i64 0)).setCell ⟨bi, k * 3 + 2, none⟩ (.string ⟨#[]⟩))) := ((HU.out.set ⟨bi, k * 3, none⟩ _ (Nat.le_refl _) hB1 hM1 HNE.out).set ⟨bi, k * 3 + 1, none⟩ _ (Nat.le_refl _) hB1 hM1 HNE.out).set ⟨bi, k * 3 + 2, none⟩ _ (Nat.le_refl _) hB1 hM1 HNE.out
            rw [hbi] at p1
            clear hcs hB1 hM1
            go_wp2
            go_roundg g
            case measure => omega
            case rel => exact ⟨k + 1, by go_num, by omega, HUN.out⟩
          | zero =>
            have hki : ¬ (k : Int) < (x.l.length : Int) := by omega
            go_wp2
            go_roundg g
            case measure => omega
            case rel => exact ⟨j + 1, by go_num, by omega, HU.out⟩
      | zero =>
        have hji : ¬ (j : Int) < (R.length : Int) := by omega
        have a0 := HT.out.a0
        go_wp2
        go_loopg [50] cols.length (fun g x50 wr => ∃ k : Nat, x50 = .int .i64 k ∧ k + g = cols.length ∧ Hid (TlS w B w.heap.size w.heap.size A1 A2 cols.length c1 c2 R wr))
        case atStart => exact ⟨0, rfl, by omega, HT.out⟩
        case round =>
          obtain ⟨k, rfl, hk, HU⟩ := hrel
          have a0 := HU.out.a0
          cases gk with
          | succ g =>
            have hki : (k : Int) < (cols.length : Int) := by omega
            have hkn : k < cols.length := by omega
            obtain ⟨bi, rfl, hB1, hM1, hcs⟩ := HU.out.c (by omega)
            obtain ⟨s0, g0⟩ := hcs k hkn
            obtain ⟨v0, s0⟩ := Option.isSome_iff_exists.1 s0
            have HUN : Hid (TlS w B w.heap.size w.heap.size (some ⟨bi, 0, none⟩) A2 cols.length c1 c2 R (wr.setCell ⟨bi, k, none⟩ (.string ⟨#[115, 112, 111, 105, 108, 116]⟩))) := HU.out.set ⟨bi, k, none⟩ _ (Nat.le_refl _) hB1 hM1 (fun _ a e => (HCR.out ⟨bi, 0, none⟩ a _ _ _ _ rfl (by rw [e])).symm)
            clear hcs hB1 hM1
            go_wp2
            go_roundg g
            case measure => omega
            case rel => exact ⟨k + 1, by go_num, by omega, HUN.out⟩
          | zero =>
            have hki : ¬ (k : Int) < (cols.length : Int) := by omega
            go_wp2
            go_ret
            exact ⟨rfl, HU.out.b⟩
  · have hei : (e1 == e2) = false := beq_eq_false_iff_ne.2 he
    have HRES : Hid (((e1 == e2) && q) = false) := by show _ = _; rw [hei]; rfl
    clear hn2 hn4 he HCALL
    go_enter Try.func24, Try.ntmps24
    go_wp2_with fail
    clear hwa hwb
    obtain ⟨w5, hwd⟩ : ∃ wd, wb.drew = wd := ⟨_, rfl⟩
    have HT5 : Hid (TlS w B w.heap.size w.heap.size A1 A2 cols.length c1 c2 R w5) := by show TlS _ _ _ _ _ _ _ _ _ _ _; rw [← hwd]; exact HTS.out.next (Nat.le_refl _) HCELL.out.2.2.2.2.1 hB (Below.refl _ _).drew
    refine wp_region_held_drew (S := fun _ => True) (by kernel_rfl) trivial (fun hHeld => ?_)
    rw [hwd]
    clear hwd
    refine takeV 0 (some 13) ((.int .i64 e1)) rfl rfl (by kernel_rfl) (by kernel_rfl) (by kernel_rfl) (fun _ _ _ h => h) (by rfl) (by (intro _w _hSw; (try dsimp only at _hSw); go_simp)) (by assumption) ?_
    simp only [Act.put, List.setIfInBounds_toArray, List.set_cons_zero, List.set_cons_succ]
    refine takeV 1 (some 14) ((.int .i64 e2)) rfl rfl (by kernel_rfl) (by kernel_rfl) (by kernel_rfl) (fun _ _ _ h => h) (by rfl) (by (intro _w _hSw; (try dsimp only at _hSw); go_simp)) (by assumption) ?_
    simp only [Act.put, List.setIfInBounds_toArray, List.set_cons_zero, List.set_cons_succ]
    refine takeV 2 (some 15) ((.bool false)) rfl rfl (by kernel_rfl) (by kernel_rfl) (by kernel_rfl) (fun _ _ _ h => h) (by rfl) (by (intro _w _hSw; (try dsimp only at _hSw); go_simp)) (by assumption) ?_
    simp only [Act.put, List.setIfInBounds_toArray, List.set_cons_zero, List.set_cons_succ]
    refine takeV 3 (some 16) ((.bool false)) rfl rfl (by kernel_rfl) (by kernel_rfl) (by kernel_rfl) (fun _ _ _ h => h) (by rfl) (by (intro _w _hSw; (try dsimp only at _hSw); go_simp)) (by assumption) ?_
    simp only [Act.put, List.setIfInBounds_toArray, List.set_cons_zero, List.set_cons_succ]
    refine skipV 4 (some 17) rfl rfl (by kernel_rfl) (by kernel_rfl) (by kernel_rfl) (fun _ _ _ h => h) (by rfl) (by assumption) ?_
    simp only [Act.put, List.setIfInBounds_toArray, List.set_cons_zero, List.set_cons_succ]
    refine skipV 5 (some 18) rfl rfl (by kernel_rfl) (by kernel_rfl) (by kernel_rfl) (fun _ _ _ h => h) (by rfl) (by assumption) ?_
    simp only [Act.put, List.setIfInBounds_toArray, List.set_cons_zero, List.set_cons_succ]
    refine skipV 6 (some 19) rfl rfl (by kernel_rfl) (by kernel_rfl) (by kernel_rfl) (fun _ _ _ h => h) (by rfl) (by assumption) ?_
    simp only [Act.put, List.setIfInBounds_toArray, List.set_cons_zero, List.set_cons_succ]
    refine skipV 7 (some 20) rfl rfl (by kernel_rfl) (by kernel_rfl) (by kernel_rfl) (fun _ _ _ h => h) (by rfl) (by assumption) ?_
    simp only [Act.put, List.setIfInBounds_toArray, List.set_cons_zero, List.set_cons_succ]
    refine takeV 8 (some 21) ((.bool false)) rfl rfl (by kernel_rfl) (by kernel_rfl) (by kernel_rfl) (fun _ _ _ h => h) (by rfl) (by (intro _w _hSw; (try dsimp only at _hSw); go_simp)) (by assumption) ?_
    simp only [Act.put, List.setIfInBounds_toArray, List.set_cons_zero, List.set_cons_succ]
    refine takeV 9 (some 9) ((.bool false)) rfl rfl (by kernel_rfl) (by kernel_rfl) (by kernel_rfl) (fun _ _ _ h => h) (by rfl) (by (intro _w _hSw; (try dsimp only at _hSw); go_simp)) (by assumption) ?_
    simp only [Act.put, List.setIfInBounds_toArray, List.set_cons_zero, List.set_cons_succ]
    refine wpAnyH_done (by kernel_rfl) ?_ _
    have a1 := HT5.out.a1
    go_wp2
    go_loopg [25] R.length (fun g x25 wr => ∃ j : Nat, x25 = .int .i64 j ∧ j + g = R.length ∧ Hid (TlS w B w.heap.size w.heap.size A1 A2 cols.length c1 c2 R wr))
    case atStart => exact ⟨0, rfl, by omega, HT5.out⟩
    case round =>
      obtain ⟨j, rfl, hj, HT⟩ := hrel
      have a1 := HT.out.a1
      obtain ⟨wo, hwo⟩ : ∃ wo, wo = wr := ⟨_, rfl⟩
      subst hwo
      cases gk with
      | succ g =>
        have hji : (j : Int) < (R.length : Int) := by omega
        have hjn : j < R.length := by omega
        obtain ⟨bR, oR, rfl, hbR, hp⟩ := HT.out.s.at_ hjn
        have HRJ : Hid (R[j]? = some R[j]) := List.getElem?_eq_getElem hjn
        obtain ⟨x, hx⟩ : ∃ x, R[j] = x := ⟨_, rfl⟩
        rw [hx] at hp HRJ
        have HXM : Hid (x ∈ R) := List.mem_of_getElem? HRJ.out
        have hxl := HL5.out x HXM.out
        have HCL : Hid (∀ W, TlS w B w.heap.size w.heap.size A1 (some (⟨bR, oR, none⟩ : Addr)) cols.length c1 c2 R W → W.cell? ⟨bR, oR + j, none⟩ = some (.slice x.A x.l.length x.c)) := fun W h => h.s.cell HRJ.out
        unfold cellR at hp
        clear hx
        go_wp2
        go_loopg [34] x.l.length (fun g x34 wr => ∃ k : Nat, x34 = .int .i64 k ∧ k + g = x.l.length ∧ Hid (TlS w B w.heap.size w.heap.size A1 (some (⟨bR, oR, none⟩ : Addr)) cols.length c1 c2 R wr))
        case atStart => exact ⟨0, rfl, by omega, HT.out⟩
        case round =>
          obtain ⟨k, rfl, hk, HU⟩ := hrel
          have a1 := HU.out.a1
          have p1 := HCL.out _ HU.out
          cases gk with
          | succ g =>
            have hki : (k : Int) < (x.l.length : Int) := by omega
            have hkn : k < x.l.length := by omega
            obtain ⟨bi, hbi, hB1, hM1, hcs⟩ := HU.out.i x HXM.out (by omega)
            obtain ⟨⟨s0, g0⟩, ⟨s1, g1⟩, s2, g2⟩ := show ((wr.cell? ⟨bi, k * 3, none⟩).isSome = true ∧ wr.frozen? ⟨bi, k * 3, none⟩ = false) ∧ ((wr.cell? ⟨bi, k * 3 + 1, none⟩).isSome = true ∧ wr.frozen? ⟨bi, k * 3 + 1, none⟩ = false) ∧ ((wr.cell? ⟨bi, k * 3 + 2, none⟩).isSome = true ∧ wr.frozen? ⟨bi, k * 3 + 2, none⟩ = false) from ⟨hcs (k * 3) (by omega), hcs (k * 3 + 1) (by omega), hcs (k * 3 + 2) (by omega)⟩
            obtain ⟨v0, s0⟩ := Option.isSome_iff_exists.1 s0
            obtain ⟨v1, s1⟩ := Option.isSome_iff_exists.1 s1
            obtain ⟨v2, s2⟩ := Option.isSome_iff_exists.1 s2
            have HNE : Hid (R ≠ [] → ∀ a, some (⟨bR, oR, none⟩ : Addr) = some a → a.block ≠ bi) := fun _ a e => by
              have h := HAP.out x HXM.out (fun e => by rw [e] at hkn; simp at hkn) a ⟨bi, 0, none⟩ e hbi
              exact h
            have HUN : Hid (TlS w B w.heap.size w.heap.size A1 (some (⟨bR, oR, none⟩ : Addr)) cols.length c1 c2 R (((wr.setCell ⟨bi, k * 3, none⟩ (.int .i64 99)).setCell ⟨bi, k * 3 + 1, none⟩ (.int .i64 0)).setCell ⟨bi, k * 3 + 2, none⟩ (.string ⟨#[]⟩))) := ((HU.out.set ⟨bi, k * 3, none⟩ _ (Nat.le_refl _) hB1 hM1 HNE.out).set ⟨bi, k * 3 + 1, none⟩ _ (Nat.le_refl _) hB1 hM1 HNE.out).set ⟨bi, k * 3 + 2, none⟩ _ (Nat.le_refl _) hB1 hM1 HNE.out
            rw [hbi] at p1
            clear hcs hB1 hM1
            go_wp2
            go_roundg g
            case measure => omega
            case rel => exact ⟨k + 1, by go_num, by omega, HUN.out⟩
          | zero =>
            have hki : ¬ (k : Int) < (x.l.length : Int) := by omega
            go_wp2
            go_roundg g
            case measure => omega
            case rel => exact ⟨j + 1, by go_num, by omega, HU.out⟩
      | zero =>
        have hji : ¬ (j : Int) < (R.length : Int) := by omega
        have a0 := HT.out.a0
        go_wp2
        go_loopg [50] cols.length (fun g x50 wr => ∃ k : Nat, x50 = .int .i64 k ∧ k + g = cols.length ∧ Hid (TlS w B w.heap.size w.heap.size A1 A2 cols.length c1 c2 R wr))
        case atStart => exact ⟨0, rfl, by omega, HT.out⟩
        case round =>
          obtain ⟨k, rfl, hk, HU⟩ := hrel
          have a0 := HU.out.a0
          cases gk with
          | succ g =>
            have hki : (k : Int) < (cols.length : Int) := by omega
            have hkn : k < cols.length := by omega
            obtain ⟨bi, rfl, hB1, hM1, hcs⟩ := HU.out.c (by omega)
            obtain ⟨s0, g0⟩ := hcs k hkn
            obtain ⟨v0, s0⟩ := Option.isSome_iff_exists.1 s0
            have HUN : Hid (TlS w B w.heap.size w.heap.size (some ⟨bi, 0, none⟩) A2 cols.length c1 c2 R (wr.setCell ⟨bi, k, none⟩ (.string ⟨#[115, 112, 111, 105, 108, 116]⟩))) := HU.out.set ⟨bi, k, none⟩ _ (Nat.le_refl _) hB1 hM1 (fun _ a e => (HCR.out ⟨bi, 0, none⟩ a _ _ _ _ rfl (by rw [e])).symm)
            clear hcs hB1 hM1
            go_wp2
            go_roundg g
            case measure => omega
            case rel => exact ⟨k + 1, by go_num, by omega, HUN.out⟩
          | zero =>
            have hki : ¬ (k : Int) < (cols.length : Int) := by omega
            go_wp2
            go_ret
            exact ⟨rfl, HU.out.b⟩
end Go.Proofs.Ytofmfainhflmmaa
