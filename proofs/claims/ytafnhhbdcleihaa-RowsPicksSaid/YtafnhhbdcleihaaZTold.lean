/-
  CONTRACTS: the law's same, told.
-/
import Derived.Test.YtafnhhbdcleihaaZSame
import Derived.Test.YtafnhhbdcleihaaZOf
namespace Go.Proofs.Ytafnhhbdcleihaa
open Go.RowKit

/-- all that has come since -/
def Snc (wr : World) (W : World) : Prop := Below wr.heap.size wr W
theorem Snc.next {wr W W' : World} (h : Snc wr W) (hb : Below W.heap.size W W') : Snc wr W' := Below.trans h (hb.mono (Below.size h))

set_option maxRecDepth 100000 in
set_option maxHeartbeats 4000000 in
theorem sameL_any (A1 A2 A3 A4 : Option Addr) (c1 c2 c3 c4 : Nat) (l1 l2 : List ByteArray) (R1 R2 : List Rw) (w : World) (hs1 : SlC w w.heap.size A1 l1) (hs2 : SlC w w.heap.size A3 l2) (hr1 : SlR w w.heap.size A2 R1) (hr2 : SlR w w.heap.size A4 R2)
    (hl1 : l1.length ≤ 1000000000) (hl2 : l2.length ≤ 1000000000) (hl3 : R1.length ≤ 1000000000) (hl4 : R2.length ≤ 1000000000) :
    Calls Try.prog 17 #[.agg #[.slice A1 l1.length c1, .slice A2 R1.length c2], .agg #[.slice A3 l2.length c3, .slice A4 R2.length c4]] w fun e w' => e = .returned (.bool (sameB l1 l2 (txR R1) (txR R2))) ∧ Below w.heap.size w w' := by
  have HCALL := Lib.hid (fun W (hb : Below w.heap.size w W) => sameRel_any A1 A2 A3 A4 c1 c2 c3 c4 l1 l2 R1 R2 W (hs1.up hb (Nat.le_refl _)) (hs2.up hb (Nat.le_refl _)) (hr1.up hb (Nat.le_refl _)) (hr2.up hb (Nat.le_refl _)) hl1 hl2 hl3 hl4)
  clear hs1 hs2 hr1 hr2
  obtain ⟨n1, hn1⟩ : ∃ n, l1.length = n := ⟨_, rfl⟩
  obtain ⟨n2, hn2⟩ : ∃ n, l2.length = n := ⟨_, rfl⟩
  obtain ⟨n3, hn3⟩ : ∃ n, R1.length = n := ⟨_, rfl⟩
  obtain ⟨n4, hn4⟩ : ∃ n, R2.length = n := ⟨_, rfl⟩
  rw [hn1, hn2, hn3, hn4] at HCALL
  rw [hn1, hn2, hn3, hn4]
  obtain ⟨q, hq⟩ : ∃ q, sameB l1 l2 (txR R1) (txR R2) = q := ⟨_, rfl⟩
  rw [hq] at HCALL ⊢
  clear hn1 hn2 hn3 hn4 hq hl1 hl2 hl3 hl4
  obtain ⟨wa, hwa⟩ : ∃ wa, w.alloc (.cells #[.slice A1 n1 c1, .slice A2 n3 c2] 26) = wa := ⟨_, rfl⟩
  have hza : wa.heap.size = w.heap.size + 1 := by rw [← hwa]; simp
  have hba : Below w.heap.size w wa := by rw [← hwa]; exact (Below.refl _ _).alloc (Nat.le_refl _) _
  have a0 : wa.cell? ⟨w.heap.size, 0, none⟩ = some (.slice A1 n1 c1) := by rw [← hwa, World.cell?_alloc_new]; rfl
  have a1 : wa.cell? ⟨w.heap.size, 1, none⟩ = some (.slice A2 n3 c2) := by rw [← hwa, World.cell?_alloc_new]; rfl
  obtain ⟨wb, hwb⟩ : ∃ wb, wa.alloc (.cells #[.slice A3 n2 c3, .slice A4 n4 c4] 26) = wb := ⟨_, rfl⟩
  have hzb : wb.heap.size = wa.heap.size + 1 := by rw [← hwb]; simp
  have hbb : Below wa.heap.size wa wb := by rw [← hwb]; exact (Below.refl _ _).alloc (Nat.le_refl _) _
  have b0 : wb.cell? ⟨wa.heap.size, 0, none⟩ = some (.slice A3 n2 c3) := by rw [← hwb, World.cell?_alloc_new]; rfl
  have b1 : wb.cell? ⟨wa.heap.size, 1, none⟩ = some (.slice A4 n4 c4) := by rw [← hwb, World.cell?_alloc_new]; rfl
  have hla : w.heap.size < wa.heap.size := by omega
  have hlb : wa.heap.size < wb.heap.size := by omega
  have a0 := (hbb.cell (p := ⟨w.heap.size, 0, none⟩) hla).trans a0
  have a1 := (hbb.cell (p := ⟨w.heap.size, 1, none⟩) hla).trans a1
  have HBB : Hid (Below w.heap.size w wb) := hba.trans (hbb.mono hba.size)
  have HCELL := Lib.hid (show wb.cell? ⟨w.heap.size, 0, none⟩ = some (.slice A1 n1 c1) ∧ wb.cell? ⟨w.heap.size, 1, none⟩ = some (.slice A2 n3 c2) ∧ wb.cell? ⟨wa.heap.size, 0, none⟩ = some (.slice A3 n2 c3) ∧ wb.cell? ⟨wa.heap.size, 1, none⟩ = some (.slice A4 n4 c4) ∧ w.heap.size < wb.heap.size ∧ wa.heap.size < wb.heap.size from ⟨a0, a1, b0, b1, by omega, by omega⟩)
  clear hza hba hzb hbb hla hlb a0 a1 b0 b1
  go_enter Try.func17, Try.ntmps17
  go_wp2_with fail
  clear hwa hwb
  obtain ⟨wd, hwd⟩ : ∃ wd, wb.drew = wd := ⟨_, rfl⟩
  have HSN : Hid (Snc wb wd) := by show Snc _ _; rw [← hwd]; exact (Below.refl _ _).drew
  refine wp_region_held_drew (S := Snc wb) (by kernel_rfl) (by rw [hwd]; exact HSN.out) (fun hHeld => ?_)
  rw [hwd] at hHeld ⊢
  clear hwd
  refine takeV 0 (some 5) ((.agg #[.slice A1 n1 c1, .slice A2 n3 c2])) rfl rfl (by kernel_rfl) (by kernel_rfl) (by kernel_rfl) (fun _ _ _ h => h) (by rfl) (by (intro _w hSw; have k0 := (Below.cell (p := ⟨w.heap.size, 0, none⟩) hSw HCELL.out.2.2.2.2.1).trans HCELL.out.1; have k1 := (Below.cell (p := ⟨w.heap.size, 1, none⟩) hSw HCELL.out.2.2.2.2.1).trans HCELL.out.2.1; clear hSw; go_simp)) (by assumption) ?_
  simp only [Act.put, List.setIfInBounds_toArray, List.set_cons_zero, List.set_cons_succ]
  refine takeV 2 (some 7) ((.agg #[.slice A3 n2 c3, .slice A4 n4 c4])) rfl rfl (by kernel_rfl) (by kernel_rfl) (by kernel_rfl) (fun _ _ _ h => h) (by rfl) (by (intro _w hSw; have k0 := (Below.cell (p := ⟨wa.heap.size, 0, none⟩) hSw HCELL.out.2.2.2.2.2).trans HCELL.out.2.2.1; have k1 := (Below.cell (p := ⟨wa.heap.size, 1, none⟩) hSw HCELL.out.2.2.2.2.2).trans HCELL.out.2.2.2.1; clear hSw; go_simp)) (by assumption) ?_
  simp only [Act.put, List.setIfInBounds_toArray, List.set_cons_zero, List.set_cons_succ]
  refine callV 1 rfl (by kernel_rfl) (by rfl) (fun K hK => ?_)
  go_simp
  refine (ref_any _ _ _ _ _ _ _ _ rfl rfl _).mono ?_
  rintro e w3 ⟨rfl, hb3⟩
  refine hK.out _ _ (hHeld.next hb3) (fun hHeld3 => ?_)
  clear hK K hHeld hb3
  try simp only [Act.put, List.setIfInBounds_toArray, List.set_cons_zero, List.set_cons_succ]
  refine callV 3 rfl (by kernel_rfl) (by rfl) (fun K hK => ?_)
  go_simp
  refine (ref_any _ _ _ _ _ _ _ _ rfl rfl _).mono ?_
  rintro e w4 ⟨rfl, hb4⟩
  refine hK.out _ _ (hHeld3.next hb4) (fun hHeld4 => ?_)
  clear hK K hHeld3 hb4
  try simp only [Act.put, List.setIfInBounds_toArray, List.set_cons_zero, List.set_cons_succ]
  refine callV 4 rfl (by kernel_rfl) (by rfl) (fun K hK => ?_)
  go_simp
  refine (HCALL.out _ (HBB.out.trans (Below.mono hHeld4 HBB.out.size))).mono ?_
  rintro e w5 ⟨rfl, hb5⟩
  have HB5 := Lib.hid (hHeld4.next hb5)
  refine hK.out _ _ (hHeld4.next hb5) (fun _ => ?_)
  clear hK K hHeld4 hb5
  try simp only [Act.put, List.setIfInBounds_toArray, List.set_cons_zero, List.set_cons_succ]
  refine takeV 5 (some 4) ((.bool q)) rfl rfl (by kernel_rfl) (by kernel_rfl) (by kernel_rfl) (fun _ _ _ h => h) (by rfl) (by (intro _w _hSw; (try dsimp only at _hSw); go_simp)) (by assumption) ?_
  simp only [Act.put, List.setIfInBounds_toArray, List.set_cons_zero, List.set_cons_succ]
  refine wpAnyH_done (by kernel_rfl) ?_ _
  go_wp2
  go_ret
  exact ⟨rfl, HBB.out.trans (Below.mono HB5.out HBB.out.size)⟩

/-- so many cells that may be written, from B on, ahead of M -/
def WrN (W : World) (B M : Nat) (A : Option Addr) (n : Nat) : Prop := 0 < n → ∃ b, A = some ⟨b, 0, none⟩ ∧ B ≤ b ∧ b < M ∧ ∀ j, j < n → (W.cell? ⟨b, j, none⟩).isSome = true ∧ W.frozen? ⟨b, j, none⟩ = false
theorem isSome_set {W : World} {p q : Addr} {u : Value} (h : (W.cell? p).isSome = true) : ((W.setCell q u).cell? p).isSome = true := by
  by_cases e : p = q
  · subst e
    obtain ⟨v, hv⟩ := Option.isSome_iff_exists.1 h
    rw [World.cell?_setCell_same _ _ _ hv]; rfl
  · rw [World.cell?_setCell_other _ _ _ _ (by first | exact e | exact fun h => e h.symm)]; exact h
theorem WrN.set {W : World} {B M : Nat} {A : Option Addr} {n : Nat} (h : WrN W B M A n) (p : Addr) (u : Value) : WrN (W.setCell p u) B M A n := fun hn => by
  obtain ⟨b, e, h1, h2, h3⟩ := h hn
  exact ⟨b, e, h1, h2, fun j hj => ⟨isSome_set (h3 j hj).1, by simpa using (h3 j hj).2⟩⟩
theorem WrN.next {W W' : World} {B M : Nat} {A : Option Addr} {n : Nat} (h : WrN W B M A n) (hb : Below M W W') : WrN W' B M A n := fun hn => by
  obtain ⟨b, e, h1, h2, h3⟩ := h hn
  exact ⟨b, e, h1, h2, fun j hj => ⟨by rw [hb.cell (p := ⟨b, j, none⟩) h2]; exact (h3 j hj).1, (hb.frozen (p := ⟨b, j, none⟩) h2).trans (h3 j hj).2⟩⟩
theorem owns_wr {W : World} {B : Nat} {t : TypeId} {k n c : Nat} {A : Option Addr} {xs : List Value} (h : W.ownsRow B t k (.slice A n c) n xs) (hx : xs.length = n * k) : WrN W B W.heap.size A (n * k) := fun hn => by
  rcases h.2 with ⟨_, h0⟩ | ⟨g, cap, cur, e, hB, hgb, _⟩
  · rw [h0] at hn; omega
  · injection e with e1 e2 e3
    subst e1 e3
    refine ⟨g, rfl, hB, (Array.getElem?_eq_some_iff.1 hgb).1, fun j hj => ⟨?_, h.frozenAt j⟩⟩
    rw [h.cellAt j hj, List.getElem?_eq_getElem (by omega)]; rfl
/-- a list of rows that a call answers: new memory -/
structure AnsR (W : World) (B : Nat) (v : Value) (R : List Rw) : Prop where
  f : ∃ A c, v = .slice A R.length c ∧ Sl1 cellR W W.heap.size A R ∧ R.length ≤ c ∧ c ≤ maxLen ∧ (A = none → R.length = 0 ∧ c = 0) ∧ (∀ x ∈ R, x.l ≠ [] → ∀ a b, A = some a → x.A = some b → a.block ≠ b.block)
  i : ∀ x ∈ R, OwnV W B (cellR x) x.l
  z : ∀ x ∈ R, zOk x.l
theorem OwnR.ans {W : World} {B : Nat} {v : Value} {R : List Rw} (h : OwnR W B v R) : AnsR W B v R := by
  obtain ⟨A, c, e, hs, h1, h2, h3, _⟩ := h.o.form
  refine ⟨⟨A, c, e, hs, h1, h2, h3, fun x hx hne a b e1 e2 e3 => ?_⟩, h.i, h.z⟩
  have ho := h.o
  have hi := h.i x hx
  subst e e1
  rcases ho.2 with ⟨ea, _⟩ | ⟨g, cap, cur, ea, _, hga, _⟩
  · cases ea
  · rcases hi.2 with ⟨eb, h0⟩ | ⟨g', cap', cur', eb, _, hgb, _⟩
    · exact hne (List.length_eq_zero_iff.1 h0)
    · injection ea with ea
      injection ea with ea
      unfold cellR at eb
      injection eb with eb
      rw [e2] at eb
      injection eb with eb
      rw [ea, eb] at e3
      simp only at e3
      subst e3
      rw [hga] at hgb
      injection hgb with hgb
      injection hgb with _ hgb _
      exact absurd hgb (by decide)
end Go.Proofs.Ytafnhhbdcleihaa
