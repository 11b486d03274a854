import Derived.Test.YtlmihlepaoifiaaGreatJHNone
/-
  CONTRACTS: the closures of the rows that ask whether two facts meet.
-/
namespace Go.Proofs.YtlmihlepaoifiaaGreat
open Go.RowKit Go.Shelf Go.Maps

theorem OwnR.form {W : World} {B b o : Nat} {v : Value} {l : List StrP} (h : OwnR W B b o v l) : (l = [] ∧ ∃ A c, v = .slice A 0 c) ∨ (0 < l.length ∧ ∃ g cap, v = .slice (some ⟨g, 0, none⟩) l.length cap ∧ B ≤ g ∧ g < W.heap.size ∧ l.length ≤ cap) := by
  rcases h.2 with ⟨rfl, h0⟩ | ⟨g, cap, cur, rfl, hB, hgb, hlc, _⟩
  · exact .inl ⟨List.length_eq_zero_iff.1 h0, none, 0, rfl⟩
  · rcases Nat.eq_zero_or_pos l.length with h0 | h0
    · exact .inl ⟨List.length_eq_zero_iff.1 h0, some ⟨g, 0, none⟩, cap, by rw [h0]⟩
    · exact .inr ⟨h0, g, cap, rfl, hB, (Array.getElem?_eq_some_iff.1 hgb).1, hlc⟩
set_option maxRecDepth 100000 in
set_option maxHeartbeats 2000000 in
theorem twoT_any (T : List Att) (bB bM bX : Nat) (A : Option Addr) (c0 : Nat) (fs : List FactP) (w : World) (hs : FVa w (.slice A fs.length c0) fs) (hl : fs.length ≤ 10000) (hS : sumS fs ≤ 100000) (hwf : ∀ f ∈ fs, WfF f) (hpos : ∀ f ∈ fs, ∀ s ∈ f.l, s.1 < s.2)
    (hmp : Boxed w bB 53 (.map (some bM))) (hm : MapAt w bM T) (hx : Boxed w bX 22 (.slice A fs.length c0)) :
    Calls Tryz.prog 24 #[.pointer (some ⟨bB, 0, none⟩), .pointer (some ⟨bX, 0, none⟩)] w fun e w' => (∃ r : Bool, e = .returned (.bool r) ∧ (r = true ↔ ¬ (strF (a3B T) 0 fs).Pairwise (Apart kE kA))) ∧ Below w.heap.size w w' := by
  have x0 := hx.cell
  have HW : Hid (∃ b o, (fs ≠ [] → A = some ⟨b, o, none⟩) ∧ Calls Tryz.prog 27 #[.slice A fs.length c0, .func (.func 25) #[] #[.pointer (some ⟨bB, 0, none⟩)]] w fun e w' => (∃ v, e = .returned v ∧ OwnR w' w.heap.size b o v (strF (a3B T) 0 fs)) ∧ Below w.heap.size w w') := by
    by_cases hf : fs = []
    · subst hf
      exact ⟨0, 0, fun h => absurd rfl h, (strnoneT_any bB A c0 w).mono fun e w' ⟨he, hb⟩ => ⟨⟨_, he, ownR_nil _ _ _ _⟩, hb⟩⟩
    · obtain ⟨A2, c2, e, hsx, _⟩ := id hs
      injection e with e1 _ e3
      subst e1
      obtain ⟨b, o, rfl, _⟩ := hsx hf
      exact ⟨b, o, fun _ => rfl, strT_any T bB bM b o c0 fs w hs hl hS hwf hmp hm⟩
  obtain ⟨b, o, hA, hC⟩ := HW.out
  have HC := Lib.hid hC
  have HA := Lib.hid hA
  have HS := Lib.hid hs
  obtain ⟨L, hL⟩ : ∃ L, strF (a3B T) 0 fs = L := ⟨_, rfl⟩
  have HLP : Hid ((∀ x ∈ L, StrOk fs x) ∧ (∀ x ∈ L, x.s.1 < x.s.2) ∧ L.length ≤ 100000 ∧ (L ≠ [] → fs ≠ [])) := by
    show _ ∧ _
    rw [← hL]
    refine ⟨fun x hx => (strF_ok0 hx).1, fun x hx => ?_, Nat.le_trans (strF_len _ _ _) hS, fun h e => h (by rw [e]; rfl)⟩
    obtain ⟨h1, h2, _⟩ := strF_ok0 hx
    exact hpos x.f (List.mem_of_getElem? h1) x.s h2
  rw [hL] at HC ⊢
  clear hC hA hs hS hl hwf hpos hmp hm hx hL HW
  go_enter Tryz.func24, Tryz.ntmps24
  go_wp2_with fail
  refine HC.out.mono ?_
  rintro e w1 ⟨⟨v, rfl, ho⟩, hb1⟩
  have HB1 := Lib.hid hb1
  obtain ⟨w2, hw2⟩ : ∃ w2, w1.alloc (.cells #[.func (.func 28) #[] #[], .func (.func 29) #[] #[]] 61) = w2 := ⟨_, rfl⟩
  have hbl : Below w1.heap.size w1 w2 := by rw [← hw2]; exact (Below.refl _ _).alloc (Nat.le_refl _) _
  have hz2 : w2.heap.size = w1.heap.size + 1 := by rw [← hw2]; simp
  have hcl : w2.heap[w1.heap.size]? = some (.cells #[.func (.func 28) #[] #[], .func (.func 29) #[] #[]] 61 (0, 0)) := by rw [← hw2]; exact heap_alloc_new w1 _
  have hp0 : w2.cell? ⟨w1.heap.size, 0, none⟩ = some (.func (.func 28) #[] #[]) := by simp [World.cell?, hcl]
  have hp1 : w2.cell? ⟨w1.heap.size, 1, none⟩ = some (.func (.func 29) #[] #[]) := by simp [World.cell?, hcl]
  have HB2 := Lib.hid (hb1.trans (hbl.mono hb1.size))
  rcases ho.form with ⟨h0, A9, c9, rfl⟩ | ⟨h0, g, cap, rfl, hg0, hg, hlc⟩
  · subst h0
    have HM := Lib.hid (meetnone_any A9 c9 w1.heap.size 2 w2)
    clear hb1 ho hbl hz2 hcl hp0 hp1 HC x0
    go_wp2_with fail
    refine HM.out.mono ?_
    rintro e w3 ⟨rfl, hb3⟩
    have HB3 := Lib.hid (HB2.out.trans (hb3.mono HB2.out.size))
    clear hb3 HM hw2
    go_wp2
    go_ret
    exact ⟨⟨false, rfl, by simp⟩, HB3.out⟩
  · have hfs := HLP.out.2.2.2 (List.length_pos_iff.1 h0)
    have hAe := HA.out hfs
    subst hAe
    have HM := Lib.hid (meetT_some b o c0 w1.heap.size 2 w.heap.size g cap fs L w w2 (ho.next hbl) HLP.out.1 h0 (by have := HLP.out.2.2.1; omega) HB2.out HS.out hg0 (by omega) (by omega) hp0 hp1 (by omega) hlc)
    clear hb1 ho hbl hz2 hcl hp0 hp1 HC x0 hg0 hg hlc h0 hfs
    go_wp2_with fail
    refine HM.out.mono ?_
    rintro e w3 ⟨hme, hb3⟩
    obtain ⟨r, rfl, hr⟩ := meet_says partsT HLP.out.2.1 hme
    have HR := Lib.hid hr
    have HB3 := Lib.hid hb3
    clear hb3 HM hme hr hw2
    go_wp2
    go_ret
    exact ⟨⟨r, rfl, HR.out⟩, HB3.out⟩
set_option maxRecDepth 100000 in
set_option maxHeartbeats 2000000 in
theorem twoU_any (T : List Att) (bB bM bX : Nat) (A : Option Addr) (c0 : Nat) (fs : List FactP) (w : World) (hs : FVa w (.slice A fs.length c0) fs) (hl : fs.length ≤ 10000) (hS : sumS fs ≤ 100000) (hwf : ∀ f ∈ fs, WfF f) (hpos : ∀ f ∈ fs, ∀ s ∈ f.l, s.1 < s.2)
    (hmp : Boxed w bB 53 (.map (some bM))) (hm : MapAt w bM T) (hx : Boxed w bX 22 (.slice A fs.length c0)) :
    Calls Tryz.prog 30 #[.pointer (some ⟨bB, 0, none⟩), .pointer (some ⟨bX, 0, none⟩)] w fun e w' => (∃ r : Bool, e = .returned (.bool r) ∧ (r = true ↔ ¬ (strF (a4B T) 0 fs).Pairwise (Apart kA kV))) ∧ Below w.heap.size w w' := by
  have x0 := hx.cell
  have HW : Hid (∃ b o, (fs ≠ [] → A = some ⟨b, o, none⟩) ∧ Calls Tryz.prog 27 #[.slice A fs.length c0, .func (.func 31) #[] #[.pointer (some ⟨bB, 0, none⟩)]] w fun e w' => (∃ v, e = .returned v ∧ OwnR w' w.heap.size b o v (strF (a4B T) 0 fs)) ∧ Below w.heap.size w w') := by
    by_cases hf : fs = []
    · subst hf
      exact ⟨0, 0, fun h => absurd rfl h, (strnoneU_any bB A c0 w).mono fun e w' ⟨he, hb⟩ => ⟨⟨_, he, ownR_nil _ _ _ _⟩, hb⟩⟩
    · obtain ⟨A2, c2, e, hsx, _⟩ := id hs
      injection e with e1 _ e3
      subst e1
      obtain ⟨b, o, rfl, _⟩ := hsx hf
      exact ⟨b, o, fun _ => rfl, strU_any T bB bM b o c0 fs w hs hl hS hwf hmp hm⟩
  obtain ⟨b, o, hA, hC⟩ := HW.out
  have HC := Lib.hid hC
  have HA := Lib.hid hA
  have HS := Lib.hid hs
  obtain ⟨L, hL⟩ : ∃ L, strF (a4B T) 0 fs = L := ⟨_, rfl⟩
  have HLP : Hid ((∀ x ∈ L, StrOk fs x) ∧ (∀ x ∈ L, x.s.1 < x.s.2) ∧ L.length ≤ 100000 ∧ (L ≠ [] → fs ≠ [])) := by
    show _ ∧ _
    rw [← hL]
    refine ⟨fun x hx => (strF_ok0 hx).1, fun x hx => ?_, Nat.le_trans (strF_len _ _ _) hS, fun h e => h (by rw [e]; rfl)⟩
    obtain ⟨h1, h2, _⟩ := strF_ok0 hx
    exact hpos x.f (List.mem_of_getElem? h1) x.s h2
  rw [hL] at HC ⊢
  clear hC hA hs hS hl hwf hpos hmp hm hx hL HW
  go_enter Tryz.func30, Tryz.ntmps30
  go_wp2_with fail
  refine HC.out.mono ?_
  rintro e w1 ⟨⟨v, rfl, ho⟩, hb1⟩
  have HB1 := Lib.hid hb1
  obtain ⟨w2, hw2⟩ : ∃ w2, w1.alloc (.cells #[.func (.func 29) #[] #[], .func (.func 32) #[] #[]] 61) = w2 := ⟨_, rfl⟩
  have hbl : Below w1.heap.size w1 w2 := by rw [← hw2]; exact (Below.refl _ _).alloc (Nat.le_refl _) _
  have hz2 : w2.heap.size = w1.heap.size + 1 := by rw [← hw2]; simp
  have hcl : w2.heap[w1.heap.size]? = some (.cells #[.func (.func 29) #[] #[], .func (.func 32) #[] #[]] 61 (0, 0)) := by rw [← hw2]; exact heap_alloc_new w1 _
  have hp0 : w2.cell? ⟨w1.heap.size, 0, none⟩ = some (.func (.func 29) #[] #[]) := by simp [World.cell?, hcl]
  have hp1 : w2.cell? ⟨w1.heap.size, 1, none⟩ = some (.func (.func 32) #[] #[]) := by simp [World.cell?, hcl]
  have HB2 := Lib.hid (hb1.trans (hbl.mono hb1.size))
  rcases ho.form with ⟨h0, A9, c9, rfl⟩ | ⟨h0, g, cap, rfl, hg0, hg, hlc⟩
  · subst h0
    have HM := Lib.hid (meetnone_any A9 c9 w1.heap.size 2 w2)
    clear hb1 ho hbl hz2 hcl hp0 hp1 HC x0
    go_wp2_with fail
    refine HM.out.mono ?_
    rintro e w3 ⟨rfl, hb3⟩
    have HB3 := Lib.hid (HB2.out.trans (hb3.mono HB2.out.size))
    clear hb3 HM hw2
    go_wp2
    go_ret
    exact ⟨⟨false, rfl, by simp⟩, HB3.out⟩
  · have hfs := HLP.out.2.2.2 (List.length_pos_iff.1 h0)
    have hAe := HA.out hfs
    subst hAe
    have HM := Lib.hid (meetU_some b o c0 w1.heap.size 2 w.heap.size g cap fs L w w2 (ho.next hbl) HLP.out.1 h0 (by have := HLP.out.2.2.1; omega) HB2.out HS.out hg0 (by omega) (by omega) hp0 hp1 (by omega) hlc)
    clear hb1 ho hbl hz2 hcl hp0 hp1 HC x0 hg0 hg hlc h0 hfs
    go_wp2_with fail
    refine HM.out.mono ?_
    rintro e w3 ⟨hme, hb3⟩
    obtain ⟨r, rfl, hr⟩ := meet_says partsU HLP.out.2.1 hme
    have HR := Lib.hid hr
    have HB3 := Lib.hid hb3
    clear hb3 HM hme hr hw2
    go_wp2
    go_ret
    exact ⟨⟨r, rfl, HR.out⟩, HB3.out⟩
end Go.Proofs.YtlmihlepaoifiaaGreat

/-
  CONTRACTS: what each row asks.
-/
namespace Go.Proofs.YtlmihlepaoifiaaGreat
open Go.RowKit Go.Shelf Go.Maps

/-- what rows lays -/
structure RowsE (W : World) (A : Option Addr) (c0 : Nat) (fs : List FactP) (A2 : Option Addr) (c2 : Nat) (T : List Att) (bX bT bM bB bI bS : Nat) : Prop where
  f : FVa W (.slice A fs.length c0) fs
  a : SlA W W.heap.size A2 T
  x : Boxed W bX 22 (.slice A fs.length c0)
  t : Boxed W bT 32 (.slice A2 T.length c2)
  e : RwE W bB bM bI T
  s : Boxed W bS 57 (.func (.func 16) #[] #[.pointer (some ⟨bX, 0, none⟩)])
theorem RowsE.next {W W' : World} {A : Option Addr} {c0 : Nat} {fs : List FactP} {A2 : Option Addr} {c2 : Nat} {T : List Att} {bX bT bM bB bI bS : Nat} (h : RowsE W A c0 fs A2 c2 T bX bT bM bB bI bS) (hb : Below W.heap.size W W') : RowsE W' A c0 fs A2 c2 T bX bT bM bB bI bS :=
  ⟨h.f.next hb, (h.a.next hb (Nat.le_refl _)).more hb.size, (hb.block _ h.x.lt).trans h.x, (hb.block _ h.t.lt).trans h.t, h.e.next hb, (hb.block _ h.s.lt).trans h.s⟩
/-- what is asked of the facts -/
structure HoldA (fs : List FactP) : Prop where
  l : fs.length ≤ 10000
  S : sumS fs ≤ 100000
  O : ∀ f ∈ fs, f.l.length ≤ 1400
  wf : ∀ f ∈ fs, WfF f
  pos : ∀ f ∈ fs, ∀ s ∈ f.l, s.1 < s.2
  ok : ∀ f ∈ fs, ∀ s ∈ f.l, SpOk s
set_option maxRecDepth 100000 in
set_option maxHeartbeats 1000000 in
theorem sayF1_any (A : Option Addr) (c0 : Nat) (fs : List FactP) (A2 : Option Addr) (c2 : Nat) (T : List Att) (bX bT bM bB bI bS : Nat) (w : World) (hE : RowsE w A c0 fs A2 c2 T bX bT bM bB bI bS) (hH : HoldA fs) :
    Calls Tryz.prog 16 #[.func (.func 19) #[] #[.pointer (some ⟨bI, 0, none⟩)], .pointer (some ⟨bX, 0, none⟩)] w fun e w' => e = .returned (.bool (fs.any (a1B T))) ∧ Below w.heap.size w w' := by
  have HC := Lib.hid (someF1_any bI (a1B T) A c0 fs w hE.f (by have := hH.l; omega) (fun f hf A3 c3 W hss hlc hcm hb => ask1_any T bB bM bI f A3 f.l.length c3 W (hE.e.next hb) (hH.wf f hf)))
  have x0 := hE.x.cell
  clear hE hH
  go_enter Tryz.func16, Tryz.ntmps16
  go_wp2_with fail
  refine HC.out.mono ?_
  rintro e w1 ⟨rfl, hb⟩
  have HB := Lib.hid hb
  clear hb HC x0
  go_wp2
  go_ret
  exact ⟨rfl, HB.out⟩
set_option maxRecDepth 100000 in
set_option maxHeartbeats 1000000 in
theorem sayF2_any (A : Option Addr) (c0 : Nat) (fs : List FactP) (A2 : Option Addr) (c2 : Nat) (T : List Att) (bX bT bM bB bI bS : Nat) (w : World) (hE : RowsE w A c0 fs A2 c2 T bX bT bM bB bI bS) (hH : HoldA fs) :
    Calls Tryz.prog 16 #[.func (.func 21) #[] #[.pointer (some ⟨bB, 0, none⟩), .pointer (some ⟨bI, 0, none⟩)], .pointer (some ⟨bX, 0, none⟩)] w fun e w' => e = .returned (.bool (fs.any (a2B T))) ∧ Below w.heap.size w w' := by
  have HC := Lib.hid (someF2_any bB bI (a2B T) A c0 fs w hE.f (by have := hH.l; omega) (fun f hf A3 c3 W hss hlc hcm hb => ask2_any T bB bM bI f A3 f.l.length c3 W (hE.e.next hb) (hH.wf f hf)))
  have x0 := hE.x.cell
  clear hE hH
  go_enter Tryz.func16, Tryz.ntmps16
  go_wp2_with fail
  refine HC.out.mono ?_
  rintro e w1 ⟨rfl, hb⟩
  have HB := Lib.hid hb
  clear hb HC x0
  go_wp2
  go_ret
  exact ⟨rfl, HB.out⟩
set_option maxRecDepth 100000 in
set_option maxHeartbeats 1000000 in
theorem sayF5_any (A : Option Addr) (c0 : Nat) (fs : List FactP) (A2 : Option Addr) (c2 : Nat) (T : List Att) (bX bT bM bB bI bS : Nat) (w : World) (hE : RowsE w A c0 fs A2 c2 T bX bT bM bB bI bS) (hH : HoldA fs) :
    Calls Tryz.prog 16 #[.func (.func 34) #[] #[], .pointer (some ⟨bX, 0, none⟩)] w fun e w' => e = .returned (.bool (fs.any (a5B))) ∧ Below w.heap.size w w' := by
  have HC := Lib.hid (someF5_any  (a5B) A c0 fs w hE.f (by have := hH.l; omega) (fun f hf A3 c3 W hss hlc hcm hb => ask5_any f A3 c3 W hss hlc hcm (by have := hH.O f hf; omega) (hH.ok f hf)))
  have x0 := hE.x.cell
  clear hE hH
  go_enter Tryz.func16, Tryz.ntmps16
  go_wp2_with fail
  refine HC.out.mono ?_
  rintro e w1 ⟨rfl, hb⟩
  have HB := Lib.hid hb
  clear hb HC x0
  go_wp2
  go_ret
  exact ⟨rfl, HB.out⟩
set_option maxRecDepth 100000 in
set_option maxHeartbeats 1000000 in
theorem row1_any (A : Option Addr) (c0 : Nat) (fs : List FactP) (A2 : Option Addr) (c2 : Nat) (T : List Att) (bX bT bM bB bI bS : Nat) (w : World) (hE : RowsE w A c0 fs A2 c2 T bX bT bM bB bI bS) (hH : HoldA fs) :
    Calls Tryz.prog 18 #[.pointer (some ⟨bS, 0, none⟩), .pointer (some ⟨bI, 0, none⟩)] w fun e w' => e = .returned (.bool (fs.any (a1B T))) ∧ Below w.heap.size w w' := by
  have HC := Lib.hid (sayF1_any A c0 fs A2 c2 T bX bT bM bB bI bS w hE hH)
  have s0 := hE.s.cell
  clear hE hH
  go_enter Tryz.func18, Tryz.ntmps18
  go_wp2_with fail
  refine HC.out.mono ?_
  rintro e w1 ⟨rfl, hb⟩
  have HB := Lib.hid hb
  clear hb HC s0
  go_wp2
  go_ret
  exact ⟨rfl, HB.out⟩
set_option maxRecDepth 100000 in
set_option maxHeartbeats 1000000 in
theorem row2_any (A : Option Addr) (c0 : Nat) (fs : List FactP) (A2 : Option Addr) (c2 : Nat) (T : List Att) (bX bT bM bB bI bS : Nat) (w : World) (hE : RowsE w A c0 fs A2 c2 T bX bT bM bB bI bS) (hH : HoldA fs) :
    Calls Tryz.prog 20 #[.pointer (some ⟨bS, 0, none⟩), .pointer (some ⟨bB, 0, none⟩), .pointer (some ⟨bI, 0, none⟩)] w fun e w' => e = .returned (.bool (fs.any (a2B T))) ∧ Below w.heap.size w w' := by
  have HC := Lib.hid (sayF2_any A c0 fs A2 c2 T bX bT bM bB bI bS w hE hH)
  have s0 := hE.s.cell
  clear hE hH
  go_enter Tryz.func20, Tryz.ntmps20
  go_wp2_with fail
  refine HC.out.mono ?_
  rintro e w1 ⟨rfl, hb⟩
  have HB := Lib.hid hb
  clear hb HC s0
  go_wp2
  go_ret
  exact ⟨rfl, HB.out⟩
set_option maxRecDepth 100000 in
set_option maxHeartbeats 1000000 in
theorem row5_any (A : Option Addr) (c0 : Nat) (fs : List FactP) (A2 : Option Addr) (c2 : Nat) (T : List Att) (bX bT bM bB bI bS : Nat) (w : World) (hE : RowsE w A c0 fs A2 c2 T bX bT bM bB bI bS) (hH : HoldA fs) :
    Calls Tryz.prog 33 #[.pointer (some ⟨bS, 0, none⟩)] w fun e w' => e = .returned (.bool (fs.any (a5B))) ∧ Below w.heap.size w w' := by
  have HC := Lib.hid (sayF5_any A c0 fs A2 c2 T bX bT bM bB bI bS w hE hH)
  have s0 := hE.s.cell
  clear hE hH
  go_enter Tryz.func33, Tryz.ntmps33
  go_wp2_with fail
  refine HC.out.mono ?_
  rintro e w1 ⟨rfl, hb⟩
  have HB := Lib.hid hb
  clear hb HC s0
  go_wp2
  go_ret
  exact ⟨rfl, HB.out⟩
set_option maxRecDepth 100000 in
set_option maxHeartbeats 1000000 in
theorem row6_any (A : Option Addr) (c0 : Nat) (fs : List FactP) (A2 : Option Addr) (c2 : Nat) (T : List Att) (bX bT bM bB bI bS : Nat) (w : World) (hE : RowsE w A c0 fs A2 c2 T bX bT bM bB bI bS) (hT : T.length ≤ 1000000) :
    Calls Tryz.prog 36 #[.pointer (some ⟨bT, 0, none⟩)] w fun e w' => e = .returned (.bool (T.any a6B)) ∧ Below w.heap.size w w' := by
  have HC := Lib.hid (someA6_any A2 c2 T w hE.a hT)
  have x0 := hE.t.cell
  clear hE
  go_enter Tryz.func36, Tryz.ntmps36
  go_wp2_with fail
  refine HC.out.mono ?_
  rintro e w1 ⟨rfl, hb⟩
  have HB := Lib.hid hb
  clear hb HC x0
  go_wp2
  go_ret
  exact ⟨rfl, HB.out⟩
open Classical in
/-- do two stretches meet? -/
noncomputable def metB (k1 k2 : StrP → StrP → Int) (l : List StrP) : Bool := decide (¬ l.Pairwise (Apart k1 k2))
open Classical in
theorem metB_is {k1 k2 : StrP → StrP → Int} {l : List StrP} {r : Bool} (h : r = true ↔ ¬ l.Pairwise (Apart k1 k2)) : r = metB k1 k2 l := by
  unfold metB
  cases r
  · symm
    exact decide_eq_false fun hn => by have := h.2 hn; cases this
  · symm
    exact decide_eq_true (h.1 rfl)
theorem row3_any (A : Option Addr) (c0 : Nat) (fs : List FactP) (A2 : Option Addr) (c2 : Nat) (T : List Att) (bX bT bM bB bI bS : Nat) (w : World) (hE : RowsE w A c0 fs A2 c2 T bX bT bM bB bI bS) (hH : HoldA fs) :
    Calls Tryz.prog 24 #[.pointer (some ⟨bB, 0, none⟩), .pointer (some ⟨bX, 0, none⟩)] w fun e w' => e = .returned (.bool (metB kE kA (strF (a3B T) 0 fs))) ∧ Below w.heap.size w w' :=
  (twoT_any T bB bM bX A c0 fs w hE.f hH.l (by have := hH.S; omega) hH.wf hH.pos hE.e.mp hE.e.map hE.x).mono fun e w' ⟨⟨r, h1, h2⟩, h3⟩ => ⟨by rw [h1, metB_is h2], h3⟩
theorem row4_any (A : Option Addr) (c0 : Nat) (fs : List FactP) (A2 : Option Addr) (c2 : Nat) (T : List Att) (bX bT bM bB bI bS : Nat) (w : World) (hE : RowsE w A c0 fs A2 c2 T bX bT bM bB bI bS) (hH : HoldA fs) :
    Calls Tryz.prog 30 #[.pointer (some ⟨bB, 0, none⟩), .pointer (some ⟨bX, 0, none⟩)] w fun e w' => e = .returned (.bool (metB kA kV (strF (a4B T) 0 fs))) ∧ Below w.heap.size w w' :=
  (twoU_any T bB bM bX A c0 fs w hE.f hH.l (by have := hH.S; omega) hH.wf hH.pos hE.e.mp hE.e.map hE.x).mono fun e w' ⟨⟨r, h1, h2⟩, h3⟩ => ⟨by rw [h1, metB_is h2], h3⟩
end Go.Proofs.YtlmihlepaoifiaaGreat

/-
  CONTRACT: rows.
-/
namespace Go.Proofs.YtlmihlepaoifiaaGreat
open Go.RowKit Go.Shelf Go.Maps

/-- the six rows, laid -/
def SixAt (W : World) (bR bX bT bB bI bS : Nat) : Prop := W.heap[bR]? = some (.cells #[.int .i64 71, .func (.func 18) #[] #[.pointer (some ⟨bS, 0, none⟩), .pointer (some ⟨bI, 0, none⟩)], .int .i64 72, .func (.func 20) #[] #[.pointer (some ⟨bS, 0, none⟩), .pointer (some ⟨bB, 0, none⟩), .pointer (some ⟨bI, 0, none⟩)], .int .i64 73, .func (.func 24) #[] #[.pointer (some ⟨bB, 0, none⟩), .pointer (some ⟨bX, 0, none⟩)], .int .i64 74, .func (.func 30) #[] #[.pointer (some ⟨bB, 0, none⟩), .pointer (some ⟨bX, 0, none⟩)], .int .i64 75, .func (.func 33) #[] #[.pointer (some ⟨bS, 0, none⟩)], .int .i64 76, .func (.func 36) #[] #[.pointer (some ⟨bT, 0, none⟩)]] 39 (0, 0))
theorem SixAt.lt {W : World} {bR bX bT bB bI bS : Nat} (h : SixAt W bR bX bT bB bI bS) : bR < W.heap.size := (Array.getElem?_eq_some_iff.1 h).1
theorem SixAt.next {W W' : World} {bR bX bT bB bI bS : Nat} (h : SixAt W bR bX bT bB bI bS) (hb : Below W.heap.size W W') : SixAt W' bR bX bT bB bI bS := (hb.block _ h.lt).trans h
theorem SixAt.cell {W : World} {bR bX bT bB bI bS : Nat} (h : SixAt W bR bX bT bB bI bS) (j : Nat) : W.cell? ⟨bR, j, none⟩ = (#[Value.int .i64 71, .func (.func 18) #[] #[.pointer (some ⟨bS, 0, none⟩), .pointer (some ⟨bI, 0, none⟩)], .int .i64 72, .func (.func 20) #[] #[.pointer (some ⟨bS, 0, none⟩), .pointer (some ⟨bB, 0, none⟩), .pointer (some ⟨bI, 0, none⟩)], .int .i64 73, .func (.func 24) #[] #[.pointer (some ⟨bB, 0, none⟩), .pointer (some ⟨bX, 0, none⟩)], .int .i64 74, .func (.func 30) #[] #[.pointer (some ⟨bB, 0, none⟩), .pointer (some ⟨bX, 0, none⟩)], .int .i64 75, .func (.func 33) #[] #[.pointer (some ⟨bS, 0, none⟩)], .int .i64 76, .func (.func 36) #[] #[.pointer (some ⟨bT, 0, none⟩)]])[j]? := by unfold SixAt at h; simp [World.cell?, h]
/-- what rows answers -/
def RowsEnd (A : Option Addr) (c0 : Nat) (fs : List FactP) (A2 : Option Addr) (c2 : Nat) (T : List Att) (e : Ending) (w' : World) : Prop := ∃ bR bX bT bM bB bI bS, e = .returned (.slice (some ⟨bR, 0, none⟩) 6 6) ∧ SixAt w' bR bX bT bB bI bS ∧ RowsE w' A c0 fs A2 c2 T bX bT bM bB bI bS
set_option maxRecDepth 100000 in
set_option maxHeartbeats 4000000 in
theorem rows_any (A : Option Addr) (c0 : Nat) (fs : List FactP) (A2 : Option Addr) (c2 : Nat) (T : List Att) (w : World) (hs : FVa w (.slice A fs.length c0) fs) (ha : SlA w w.heap.size A2 T) (hT : T.length ≤ 1000000) (hid : ∀ a ∈ T, (Lit.int .i64 a.id).wf = true) :
    Calls Tryz.prog 8 #[.slice A fs.length c0, .slice A2 T.length c2] w fun e w' => RowsEnd A c0 fs A2 c2 T e w' ∧ Below w.heap.size w w' := by
  have hmm := @run_makeMap Tryz.prog
  have hmx : 2000000 ≤ maxLen := by decide
  have HS := Lib.hid hs
  have HA := Lib.hid ha
  have HI := Lib.hid hid
  clear hs ha hid
  obtain ⟨w1, hw1⟩ : ∃ w1, (w.alloc (.cells #[.slice A fs.length c0] 22)).alloc (.cells #[.slice A2 T.length c2] 32) = w1 := ⟨_, rfl⟩
  obtain ⟨w3, hw3⟩ : ∃ w3, (w1.alloc (.map #[] 0)).alloc (.cells #[.map (some w1.heap.size)] 53) = w3 := ⟨_, rfl⟩
  have hz1 : w1.heap.size = w.heap.size + 2 := by rw [← hw1]; simp
  have hz3 : w3.heap.size = w1.heap.size + 2 := by rw [← hw3]; simp
  have hb1 : Below w.heap.size w w1 := by rw [← hw1]; exact ((Below.refl _ _).alloc (Nat.le_refl _) _).alloc (by simp) _
  have hb3 : Below w1.heap.size w1 w3 := by rw [← hw3]; exact ((Below.refl _ _).alloc (Nat.le_refl _) _).alloc (by simp) _
  have hx1 : Boxed w1 w.heap.size 22 (.slice A fs.length c0) := by rw [← hw1]; exact (Boxed.new _ _ _).alloc _
  have ht1 : Boxed w1 (w.heap.size + 1) 32 (.slice A2 T.length c2) := by
    rw [← hw1]
    have := Boxed.new (w.alloc (.cells #[.slice A fs.length c0] 22)) 32 (.slice A2 T.length c2)
    rwa [World.size_alloc] at this
  have hm3 : w3.ownsMap (H := Unit) Tryz.prog 2 attE w1.heap.size 0 (mapA []) := by
    rw [← hw3]
    exact (World.ownsMap_made w1 _ _ _).alloc _
  have hp3 : Boxed w3 (w1.heap.size + 1) 53 (.map (some w1.heap.size)) := by
    rw [← hw3]
    have := Boxed.new (w1.alloc (.map #[] 0)) 53 (.map (some w1.heap.size))
    rwa [World.size_alloc] at this
  have HX3 : Hid (Boxed w3 w.heap.size 22 (.slice A fs.length c0)) := (hb3.block _ hx1.lt).trans hx1
  have HT3 : Hid (Boxed w3 (w.heap.size + 1) 32 (.slice A2 T.length c2)) := (hb3.block _ ht1.lt).trans ht1
  have HB3 := Lib.hid (hb1.trans (hb3.mono hb1.size))
  have HM3 := Lib.hid hm3
  have HP3 := Lib.hid hp3
  have HZ1 := Lib.hid hz1
  have HZ3 := Lib.hid hz3
  clear hb1 hb3 hx1 ht1 hm3 hp3 hz1 hz3
  have t0 := HT3.out.cell
  go_enter Tryz.func8, Tryz.ntmps8
  go_wp2
  clear t0 hw1 hw3 hmm
  go_loopg [13] T.length (fun g i wr => ∃ j : Nat, i = .int .i64 j ∧ j + g = T.length ∧ Hid (wr.ownsMap (H := Unit) Tryz.prog 2 attE w1.heap.size j (mapA (T.take j))) ∧ Hid (Below w.heap.size w wr) ∧ Hid (Kq w3.heap.size w1.heap.size w3 wr))
  case atStart => exact ⟨0, rfl, by omega, by rw [List.take_zero]; exact HM3.out, HB3.out, Kq.refl _ _ _⟩
  case round =>
    obtain ⟨j, rfl, hj, HM, HB, HK⟩ := hrel
    cases gk with
    | zero =>
      have hji : ¬ (j : Int) < (T.length : Int) := by omega
      have hm := HM.out
      rw [List.take_of_length_le (by omega)] at hm
      have HMM : Hid (MapAt wr w1.heap.size T) := ⟨j, by omega, hm⟩
      clear hm
      have HSZ := Lib.hid HK.out.1
      go_wp2
      obtain ⟨wf, hwf⟩ : ∃ wf, ((wr.alloc (.cells #[.func (.func 15) #[] #[.pointer (some ⟨w1.heap.size + 1, 0, none⟩)]] 54)).alloc (.cells #[.func (.func 16) #[] #[.pointer (some ⟨w.heap.size, 0, none⟩)]] 57)).alloc (.cells #[.int .i64 71, .func (.func 18) #[] #[.pointer (some ⟨wr.heap.size + 1, 0, none⟩), .pointer (some ⟨wr.heap.size, 0, none⟩)], .int .i64 72, .func (.func 20) #[] #[.pointer (some ⟨wr.heap.size + 1, 0, none⟩), .pointer (some ⟨w1.heap.size + 1, 0, none⟩), .pointer (some ⟨wr.heap.size, 0, none⟩)], .int .i64 73, .func (.func 24) #[] #[.pointer (some ⟨w1.heap.size + 1, 0, none⟩), .pointer (some ⟨w.heap.size, 0, none⟩)], .int .i64 74, .func (.func 30) #[] #[.pointer (some ⟨w1.heap.size + 1, 0, none⟩), .pointer (some ⟨w.heap.size, 0, none⟩)], .int .i64 75, .func (.func 33) #[] #[.pointer (some ⟨wr.heap.size + 1, 0, none⟩)], .int .i64 76, .func (.func 36) #[] #[.pointer (some ⟨w.heap.size + 1, 0, none⟩)]] 39) = wf := ⟨_, rfl⟩
      have hbf : Below wr.heap.size wr wf := by rw [← hwf]; exact (((Below.refl _ _).alloc (Nat.le_refl _) _).alloc (by simp) _).alloc (by simp; omega) _
      have hI : Boxed wf wr.heap.size 54 (.func (.func 15) #[] #[.pointer (some ⟨w1.heap.size + 1, 0, none⟩)]) := by rw [← hwf]; exact ((Boxed.new _ _ _).alloc _).alloc _
      have hS : Boxed wf (wr.heap.size + 1) 57 (.func (.func 16) #[] #[.pointer (some ⟨w.heap.size, 0, none⟩)]) := by
        rw [← hwf]
        have := Boxed.new (wr.alloc (.cells #[.func (.func 15) #[] #[.pointer (some ⟨w1.heap.size + 1, 0, none⟩)]] 54)) 57 (.func (.func 16) #[] #[.pointer (some ⟨w.heap.size, 0, none⟩)])
        rw [World.size_alloc] at this
        exact this.alloc _
      have hR : SixAt wf (wr.heap.size + 1 + 1) w.heap.size (w.heap.size + 1) (w1.heap.size + 1) wr.heap.size (wr.heap.size + 1) := by
        rw [← hwf]
        have := heap_alloc_new ((wr.alloc (.cells #[.func (.func 15) #[] #[.pointer (some ⟨w1.heap.size + 1, 0, none⟩)]] 54)).alloc (.cells #[.func (.func 16) #[] #[.pointer (some ⟨w.heap.size, 0, none⟩)]] 57)) (.cells #[.int .i64 71, .func (.func 18) #[] #[.pointer (some ⟨wr.heap.size + 1, 0, none⟩), .pointer (some ⟨wr.heap.size, 0, none⟩)], .int .i64 72, .func (.func 20) #[] #[.pointer (some ⟨wr.heap.size + 1, 0, none⟩), .pointer (some ⟨w1.heap.size + 1, 0, none⟩), .pointer (some ⟨wr.heap.size, 0, none⟩)], .int .i64 73, .func (.func 24) #[] #[.pointer (some ⟨w1.heap.size + 1, 0, none⟩), .pointer (some ⟨w.heap.size, 0, none⟩)], .int .i64 74, .func (.func 30) #[] #[.pointer (some ⟨w1.heap.size + 1, 0, none⟩), .pointer (some ⟨w.heap.size, 0, none⟩)], .int .i64 75, .func (.func 33) #[] #[.pointer (some ⟨wr.heap.size + 1, 0, none⟩)], .int .i64 76, .func (.func 36) #[] #[.pointer (some ⟨w.heap.size + 1, 0, none⟩)]] 39)
        rwa [World.size_alloc, World.size_alloc] at this
      have hbw := HB.out.trans (hbf.mono HB.out.size)
      have hz1 := HZ1.out
      have hz3 := HZ3.out
      have hk := HK.out
      have hmm2 := HMM.out.next hbf
      have hB : Boxed wf (w1.heap.size + 1) 53 (.map (some w1.heap.size)) := (hbf.block _ (by have := hk.1; omega)).trans ((hk.2 _ (by omega) (by omega)).trans HP3.out)
      have hX : Boxed wf w.heap.size 22 (.slice A fs.length c0) := (hbf.block _ (by have := hk.1; omega)).trans ((hk.2 _ (by omega) (by omega)).trans HX3.out)
      have hTB : Boxed wf (w.heap.size + 1) 32 (.slice A2 T.length c2) := (hbf.block _ (by have := hk.1; omega)).trans ((hk.2 _ (by omega) (by omega)).trans HT3.out)
      have HF : Hid (RowsEnd A c0 fs A2 c2 T (.returned (.slice (some ⟨wr.heap.size + 1 + 1, 0, none⟩) 6 6)) wf ∧ Below w.heap.size w wf) := ⟨⟨_, _, _, _, _, _, _, rfl, hR, HS.out.next hbw, (HA.out.next hbw (Nat.le_refl _)).more hbw.size, hX, hTB, ⟨hB, hmm2, hI⟩, hS⟩, hbw⟩
      rw [hwf]
      clear hwf hbf hI hS hR hbw hz1 hz3 hk hmm2 hB hX hTB
      go_ret
      exact HF.out
    | succ g =>
      have hji : (j : Int) < (T.length : Int) := by omega
      have hjn : j < T.length := by omega
      obtain ⟨b, o, rfl, hlt, hp⟩ := (HA.out.next HB.out (Nat.le_refl _)).at_ hjn
      have hwf := HI.out _ (List.getElem_mem hjn)
      have htk : T.take (j + 1) = T.take j ++ [T[j]] := by rw [List.take_add_one, List.getElem?_eq_getElem hjn]; rfl
      obtain ⟨y, hy⟩ : ∃ y, T[j] = y := ⟨_, rfl⟩
      rw [hy] at hp hwf htk
      have HWF := Lib.hid hwf
      have HTK := Lib.hid htk
      have y0 := hp.c0
      have y1 := hp.c1
      have y2 := hp.c2
      have y3 := hp.c3
      have y4 := hp.c4
      have y5 := hp.c5
      have y6 := hp.c6
      have p0 := Boxed.cell (show Boxed (wr.alloc (.cells #[.int .i64 y.id, .string y.nm, .int .i64 y.ty, .bool y.many, .int .i64 y.un, .bool y.part, .bool y.ix] 43)) (w1.heap.size + 1) _ _ from Boxed.alloc ((HK.out.2 _ (by have := HZ3.out; omega) (by omega)).trans HP3.out) _)
      clear hp hwf htk hy
      go_wp2_with (first
        | (at_mapUpdate; refine wpList_mapUpdate_own _ rfl _ _ _ 53 rfl 2 43 lawI6 Tryz.underlying53 (attE (H := Unit)) w1.heap.size j _ rfl (HM.out.alloc _) (by omega) _ _ _ rfl rfl (keyOf_int_mk Tryz.underlying2 HWF.out) (encA y) [] (attE_mk y) ?_; intro w5 hown5 hgrow5; have HO5 := Lib.hid hown5; have HG5 := Lib.hid hgrow5; clear hown5 hgrow5)
        | go_in)
      go_roundg g
      case measure => omega
      case rel =>
        have hs5 := HG5.out.size
        rw [World.size_alloc] at hs5
        have hK5 := HK.out.1
        have hz3 := HZ3.out
        have hbw := HB3.out.size
        refine ⟨j + 1, by go_num, by omega, by show World.ownsMap _ _ _ _ _ _ _; rw [HTK.out, mapA_snoc]; exact HO5.out, ((HB.out.alloc HB.out.size _).grown HG5.out (by rw [World.size_alloc]; omega) (fun q e => by cases e; have := HZ1.out; omega)), HK.out.trans ⟨by omega, fun q hq hne => ?_⟩⟩
        exact (HG5.out.block q (by rw [World.size_alloc]; omega) (fun e => by injection e with e; exact hne e)).trans (Below.heap_alloc _ _ _ (by omega))
end Go.Proofs.YtlmihlepaoifiaaGreat
