/-
  CONTRACT: Select's inner closure, with the law's.
-/
import Derived.Test.YtafnhhbdcleihaaZSel
namespace Go.Proofs.Ytafnhhbdcleihaa
open Go.RowKit

/-- the law's closure, as a value -/
def cloV (bO bN bx : Nat) : Value := .func (.func 24) #[] #[.pointer (some ⟨bO, 0, none⟩), .pointer (some ⟨bN, 0, none⟩), .pointer (some ⟨bx, 0, none⟩)]
theorem eg_clo : ∀ args w, (callFunc 24 args).run Try.prog w = .ok (.enter 24 args) w := enters_of Try.func24 (by kernel_rfl) rfl
theorem eg_sel2 : ∀ args w, (callFunc 60 args).run Try.prog w = .ok (.enter 60 args) w := enters_of Try.func60 (by kernel_rfl) rfl
set_option maxRecDepth 100000 in
set_option maxHeartbeats 4000000 in
theorem sel2_any (bs bx bN bO : Nat) (x r : Rw) (A1 : Option Addr) (c1 : Nat) (R : List Rw) (n : Nat) (W : World) (hst : SelSt bN bO n W) (h1 : bx < bN) (h2 : bN < bO) (h3 : bO < bs) (hs : bs < W.heap.size)
    (hbs : W.cell? ⟨bs, 0, none⟩ = some (cloV bO bN bx)) (hbx : W.cell? ⟨bx, 1, none⟩ = some (.slice A1 R.length c1)) (hR : SlR W bN A1 R) (hx : RwOk W W.heap.size x) (hn : R[n]? = some r) (he : x.l = r.l) (hl : R.length ≤ 1000000000) (hxl : x.l.length ≤ 1000000000) :
    Calls Try.prog 60 #[cellR x, .pointer (some ⟨bs, 0, none⟩)] W fun e W' => e = .returned (.bool (wantB n)) ∧ SelSt bN bO (n + 1) W' ∧ KpS bN bO W.heap.size W W' := by
  have HC := Lib.hid (fun W' (hb : Below W.heap.size W W') => cloneV_any x.A x.c x.l W' W'.heap.size (hx.up hb (Nat.le_refl _)).s hx.n (Nat.le_refl _) (by omega))
  have HST := Lib.hid hst
  have HBX := Lib.hid hbx
  have HR := Lib.hid hR
  have HZ := Lib.hid hx.z
  have HLT := Lib.hid (show bx < bN ∧ bN < bO ∧ bO < bs ∧ bs < W.heap.size from ⟨h1, h2, h3, hs⟩)
  have HCL := Lib.hid (fun (v : Value) (W3 : World) (hb : Below W.heap.size W W3) (A : Option Addr) (c : Nat) (hv : OwnV W3 W.heap.size (.slice A x.l.length c) x.l) => clo_any bx bN bO W.heap.size ⟨A, c, x.l⟩ r A1 c1 R n W3 (HST.out.next hb (by omega) (by omega)) h1 h2 (by omega) hb.size ((hb.cell (p := ⟨bx, 1, none⟩) (by show bx < _; omega)).trans HBX.out) (HR.out.next hb (by omega)) hv HZ.out hn he hl hxl)
  obtain ⟨A2, c2, l2⟩ := x
  unfold cellR at HCL ⊢
  simp only at HC HCL hxl ⊢
  unfold cloV at hbs
  have HBS := Lib.hid hbs
  clear hst hbx hR hx hn he HZ
  go_enter Try.func60, Try.ntmps60
  go_wp2_with fail
  obtain ⟨wd, hwd⟩ : ∃ wd, W.drew = wd := ⟨_, rfl⟩
  have HSN : Hid (Below W.heap.size W wd) := by show Below _ _ _; rw [← hwd]; exact (Below.refl _ _).drew
  refine wp_region_held_drew (S := fun X => X.cell? ⟨bs, 0, none⟩ = some (.func (.func 24) #[] #[.pointer (some ⟨bO, 0, none⟩), .pointer (some ⟨bN, 0, none⟩), .pointer (some ⟨bx, 0, none⟩)])) (by kernel_rfl) (by rw [hwd]; exact (HSN.out.cell (p := ⟨bs, 0, none⟩) HLT.out.2.2.2).trans HBS.out) (fun hHeld => ?_)
  rw [hwd] at hHeld ⊢
  clear hwd hbs
  refine takeV 0 (some 4) ((.func (.func 24) #[] #[.pointer (some ⟨bO, 0, none⟩), .pointer (some ⟨bN, 0, none⟩), .pointer (some ⟨bx, 0, none⟩)])) rfl rfl (by kernel_rfl) (by kernel_rfl) (by kernel_rfl) (fun _ _ _ h => h) (by rfl) (by (intro _w hSw; have k0 := hSw; clear hSw; go_simp)) (by assumption) ?_
  simp only [Act.put, List.setIfInBounds_toArray, List.set_cons_zero, List.set_cons_succ]
  refine takeV 1 (some 5) ((.slice A2 l2.length c2)) rfl rfl (by kernel_rfl) (by kernel_rfl) (by kernel_rfl) (fun _ _ _ h => h) (by rfl) (by (intro _w _hSw; (try dsimp only at _hSw); go_simp)) (by assumption) ?_
  simp only [Act.put, List.setIfInBounds_toArray, List.set_cons_zero, List.set_cons_succ]
  refine callV 2 rfl (by kernel_rfl) (by rfl) (fun K hK => ?_)
  go_simp
  refine (HC.out wd HSN.out).mono ?_
  rintro e w3 ⟨v3, rfl, ho3, hb3⟩
  obtain ⟨A5, c5, rfl, _⟩ := ho3.form
  have HB3 : Hid (Below W.heap.size W w3) := HSN.out.trans (hb3.mono HSN.out.size)
  have HO3 : Hid (OwnV w3 W.heap.size (.slice A5 l2.length c5) l2) := ho3.low HSN.out.size
  refine hK.out _ _ ((HB3.out.cell (p := ⟨bs, 0, none⟩) HLT.out.2.2.2).trans HBS.out) (fun hHeld3 => ?_)
  clear hK K hHeld hb3 ho3 HC
  try simp only [Act.put, List.setIfInBounds_toArray, List.set_cons_zero, List.set_cons_succ]
  have HCC := Lib.hid (HCL.out (.slice none 0 0) w3 HB3.out A5 c5 HO3.out)
  refine callV 3 rfl (by kernel_rfl) (by rfl) (fun K hK => ?_)
  go_simp
  refine HCC.out.mono ?_
  rintro e w4 ⟨rfl, hst4, hk4⟩
  have HST4 := Lib.hid hst4
  have HK4 : Hid (KpS bN bO W.heap.size W w4) := (KpS.of_below HB3.out (Nat.le_refl _)).trans hk4
  refine hK.out _ _ ((HK4.out.cell (p := ⟨bs, 0, none⟩) HLT.out.2.2.2 HLT.out.2.2.2 (by show bs ≠ bN; omega) (by show bs ≠ bO; omega)).trans HBS.out) (fun hHeld4 => ?_)
  clear hK K hHeld3 hst4 hk4
  try simp only [Act.put, List.setIfInBounds_toArray, List.set_cons_zero, List.set_cons_succ]
  refine takeV 4 (some 3) ((.bool (wantB n))) rfl rfl (by kernel_rfl) (by kernel_rfl) (by kernel_rfl) (fun _ _ _ h => h) (by rfl) (by (intro _w _hSw; (try dsimp only at _hSw); go_simp)) (by assumption) ?_
  simp only [Act.put, List.setIfInBounds_toArray, List.set_cons_zero, List.set_cons_succ]
  refine wpAnyH_done (by kernel_rfl) ?_ _
  clear hHeld4
  go_wp2
  go_ret
  exact ⟨rfl, HST4.out, HK4.out⟩
end Go.Proofs.Ytafnhhbdcleihaa
