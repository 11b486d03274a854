/-
  CONTRACT: the iterator agreeing$1: it hands on the rows that agree.
-/
import Derived.BigQuiet
import Derived.Test.YtofmfainhflmmaaJZMarks
import Derived.Test.YtofmfainhflmmaaJZAt
namespace Go.Proofs.Ytofmfainhflmmaa
open Go.RowKit Go.Shelf
attribute [local go_sem] Oper.semAt_some
set_option maxRecDepth 100000 in
set_option maxHeartbeats 1000000 in
/-- the search in a meeting -/
theorem findA_any {n₀ Bm Bx bm B : Nat} {A A' A4 : Option Addr} {c c' cap : Nat} {IB IA : List Nat} {M : List Rw} {x : Rw} {w : World} (h : AgF n₀ Bm Bx bm B A A' A4 c c' cap IB IA M x w) (hBm : n₀ ≤ Bm) (hgm : ∀ a, A4 = some a → a.block ≠ bm) (hap : ∀ a, A4 = some a → (∀ y ∈ M, y.l ≠ [] → ∀ b o, y.A = some ⟨b, o, none⟩ → b ≠ a.block) ∧ (x.l ≠ [] → ∀ b o, x.A = some ⟨b, o, none⟩ → b ≠ a.block) ∧ (IB ≠ [] → ∀ b o, A = some ⟨b, o, none⟩ → b ≠ a.block) ∧ (IA ≠ [] → ∀ b o, A' = some ⟨b, o, none⟩ → b ≠ a.block))
    (hu : (txR M).Pairwise fun y z => ordM IB y z ≤ 0) (hlen : IB.length = IA.length) (hi : ∀ r ∈ M, ∀ i ∈ IB, i < r.l.length) (hj : ∀ i ∈ IA, i < x.l.length) (hlI : IB.length ≤ 1000000000) (hl : M.length ≤ 1000000000000) :
    Calls Try.prog 78 #[.slice A4 M.length cap, cellR x, .func (.func 97) #[] #[.pointer (some ⟨Bm, 0, none⟩)]] w fun e w' => (∃ q, e = .returned (.tuple #[.int .i64 (((txR M).countP fun y => decide (agO IB IA y x.l < 0) : Nat) : Int), .bool q])) ∧ Below w.heap.size w w' := by
  by_cases h0 : M.length = 0
  · obtain rfl : M = [] := List.length_eq_zero_iff.1 h0
    refine (findM_nil A4 cap x Bm w).mono ?_
    rintro e w' ⟨rfl, rfl⟩
    exact ⟨⟨false, rfl⟩, Below.refl _ _⟩
  · obtain ⟨A9, c9, e9, hs, hlc, hcm, hn, hg⟩ := h.o.form
    injection e9 with e1 e2 e3
    subst e1 e3
    obtain ⟨g, o, rfl, hgw, _⟩ := hs (fun e => h0 (by rw [e]; rfl))
    obtain ⟨g1, e1, hBg, _⟩ := hg _ rfl
    obtain ⟨rfl, rfl⟩ : g1 = g ∧ o = 0 := by injection e1 with a b; exact ⟨a.symm, b⟩
    have hgn : g1 < n₀ := h.g _ rfl
    obtain ⟨p1, p2, p3, p4⟩ := hap _ rfl
    obtain ⟨m1, m0⟩ := h.mts
    exact findM_any B g1 cap M x Bm bm A A' c c' IB IA w h.o hgw (fun r hr => ⟨(h.r r hr).more h.n, p1 r hr⟩) ⟨h.rx.more h.n, p2⟩ (by omega) hl hu ⟨h.sB.more h.n, p3⟩ ⟨h.sA.more h.n, p4⟩ m1 m0 (by omega) (fun e => hgm _ rfl e.symm) hlen hi hj hlI
/-- what stands behind the place that the search found -/
theorem ag_elem {n₀ Bm Bx bm B : Nat} {A A' A4 : Option Addr} {c c' cap : Nat} {IB IA : List Nat} {M : List Rw} {x : Rw} {W : World} (h : AgF n₀ Bm Bx bm B A A' A4 c c' cap IB IA M x W) {k j : Nat} {bh : List Rw}
    (hD : M.drop k = agR IB IA M x.l ++ bh) (hbh : ∀ y ∈ bh, 0 < agO IB IA y.l x.l) (hj : j < M.length - k) :
    ∃ y g, y ∈ M ∧ cut1 A4 cap k = some ⟨g, k, none⟩ ∧ (∀ W', AgF n₀ Bm Bx bm B A A' A4 c c' cap IB IA M x W' → W'.cell? ⟨g, k + j, none⟩ = some (cellR y)) ∧
      ((j < (agR IB IA M x.l).length ∧ (agR IB IA M x.l).take (j + 1) = (agR IB IA M x.l).take j ++ [y] ∧ agO IB IA y.l x.l = 0) ∨ ((agR IB IA M x.l).length ≤ j ∧ 0 < agO IB IA y.l x.l)) := by
  have hkj : k + j < M.length := by omega
  obtain ⟨A9, c9, e9, _, hlc, _, hn, hg⟩ := h.o.form
  injection e9 with e1 e2 e3
  subst e1 e3
  obtain ⟨y, hy⟩ : ∃ y, M[k + j]? = some y := ⟨_, List.getElem?_eq_getElem hkj⟩
  obtain ⟨a, ha⟩ : ∃ a, A4 = some a := by
    cases hA : A4 with
    | none => have := (hn hA).1; omega
    | some a => exact ⟨a, rfl⟩
  obtain ⟨g, rfl, _, _⟩ := hg _ ha
  refine ⟨y, g, List.mem_of_getElem? hy, ?_, fun W' h' => ?_, ?_⟩
  · rw [ha]
    unfold cut1
    rw [if_neg (by omega)]
    simp only [Option.map_some, Addr.add, Nat.zero_add, Nat.mul_one]
    split
    · subst k; rfl
    · rfl
  · obtain ⟨A8, c8, e8, hs8, _, _, _, _⟩ := h'.o.form
    injection e8 with f1 f2 f3
    subst f1
    obtain ⟨g', o', hgo, _, hcell⟩ := hs8 (fun e => by rw [e] at hkj; simp at hkj)
    rw [ha] at hgo
    injection hgo with hgo
    injection hgo with h1 h2
    subst h1 h2
    have := hcell (k + j) y hy
    rwa [Nat.zero_add] at this
  · have hd : (agR IB IA M x.l ++ bh)[j]? = some y := by rw [← hD, List.getElem?_drop]; exact hy
    by_cases hja : j < (agR IB IA M x.l).length
    · rw [List.getElem?_append_left hja] at hd
      refine .inl ⟨hja, by rw [List.take_add_one, hd]; rfl, ?_⟩
      have := (List.mem_filter.1 (List.mem_of_getElem? hd)).2
      simpa using this
    · rw [List.getElem?_append_right (by omega)] at hd
      exact .inr ⟨by omega, hbh y (List.mem_of_getElem? hd)⟩
/-- one round of the loop that is handed rows -/
def HandsJ (n₀ Ba Bd lp N : Nat) (M : List Rw) (J Jx : List Rw → World → Prop) : Prop :=
  ∀ m pre (y : Rw) W, y ∈ M → J pre W → pre.length < N → YieldAt Fence.wide m Try.prog lp #[cellR y] W fun e W' =>
    (e = .returned (.bool true) ∧ J (pre ++ [y]) W' ∧ KeepJ n₀ Ba Bd W W') ∨ (e = .returned (.bool false) ∧ Jx (pre ++ [y]) W')
set_option maxRecDepth 100000 in
set_option maxHeartbeats 2000000 in
theorem agree_in (n₀ Bm Bx bm B C lp N : Nat) (A A' A4 : Option Addr) (c c' cap : Nat) (IB IA : List Nat) (M : List Rw) (x : Rw) (J Jx : List Rw → World → Prop) (hA : AbidesFrom C J) (hY : HandsJ n₀ Bm Bx lp N M J Jx) (n : Nat) (W : World) (h : AgF n₀ Bm Bx bm B A A' A4 c c' cap IB IA M x W)
    (hBm : n₀ ≤ Bm) (hgm : ∀ a, A4 = some a → a.block ≠ bm) (hap : ∀ a, A4 = some a → (∀ y ∈ M, y.l ≠ [] → ∀ b o, y.A = some ⟨b, o, none⟩ → b ≠ a.block) ∧ (x.l ≠ [] → ∀ b o, x.A = some ⟨b, o, none⟩ → b ≠ a.block) ∧ (IB ≠ [] → ∀ b o, A = some ⟨b, o, none⟩ → b ≠ a.block) ∧ (IA ≠ [] → ∀ b o, A' = some ⟨b, o, none⟩ → b ≠ a.block))
    (hu : M.Pairwise fun y z => ordM IB y.l z.l ≤ 0) (hlen : IB.length = IA.length) (hi : ∀ r ∈ M, ∀ i ∈ IB, i < r.l.length) (hj : ∀ i ∈ IA, i < x.l.length) (hlI : IB.length ≤ 1000000000) (hl : M.length ≤ 1000000000) (hN : M.length ≤ N) (hJ : J [] W) :
    CallsIn Fence.wide n Try.prog 96 #[.func (.yield lp) #[] #[], .pointer (some ⟨Bm, 0, none⟩), .pointer (some ⟨Bx, 0, none⟩)] W fun e W' =>
      (∃ v, e = .returned v) ∧ (J (agR IB IA M x.l) W' ∨ ∃ q, q <+: agR IB IA M x.l ∧ Jx q W') := by
  have HU : Hid ((txR M).Pairwise fun y z => ordM IB y z ≤ 0) := by show List.Pairwise _ _; unfold txR; rw [List.pairwise_map]; exact hu
  have HSP := Lib.hid (ag_splitR (IA := IA) (x := x.l) hu)
  have HCN : Hid (((txR M).countP fun y => decide (agO IB IA y x.l < 0)) = M.countP fun y => decide (agO IB IA y.l x.l < 0)) := by show _ = _; unfold txR; rw [List.countP_map]; rfl
  have HFA := Lib.hid (fun X (hX : AgF n₀ Bm Bx bm B A A' A4 c c' cap IB IA M x X) => findA_any hX hBm hgm hap HU.out hlen hi hj hlI (by omega))
  have HST := Lib.hid (fun X (hX : AgF n₀ Bm Bx bm B A A' A4 c c' cap IB IA M x X) y (hy : y ∈ M) => stands_any y x Bm bm A A' c c' IB IA X ((hX.r y hy).more hX.n) (hX.rx.more hX.n) (hX.sB.more hX.n) (hX.sA.more hX.n) hX.mts.1 hX.mts.2 hlen (hi y hy) hj hlI)
  obtain ⟨k, hk⟩ : ∃ k, (M.countP fun y => decide (agO IB IA y.l x.l < 0)) = k := ⟨_, rfl⟩
  have hkl : k ≤ M.length := by rw [← hk]; exact List.countP_le_length
  have HCK : Hid (((txR M).countP fun y => decide (agO IB IA y x.l < 0)) = k) := HCN.out.trans hk
  rw [hk] at HSP
  rw [show ((txR M).countP fun y => decide (agO IB IA y x.l < 0)) = k from HCK.out] at HFA
  have HF := Lib.hid h
  have HML := Lib.hid (And.intro hl (And.intro hN hlen))
  obtain ⟨cx, hcx⟩ : ∃ v, cellR x = v := ⟨_, rfl⟩
  rw [hcx] at HFA HST
  have HCX := Lib.hid hcx
  clear hap hgm hu hlen hi hj hlI hk hcx HU HCN HCK h
  refine callsIn_of_wp Try.func96 rfl trivial ?_ rfl
  simp only [Try.ntmps96, List.size_toArray, List.length_cons, List.length_nil, Nat.reduceAdd, Nat.reduceSub, Array.replicate_succ, Array.replicate_zero, List.push_toArray, List.append_toArray, List.nil_append, List.cons_append]
  gi_wp2_with fail
  refine wpIn_wide.2 ?_
  obtain ⟨wd, hwd⟩ : ∃ wd, W.drew = wd := ⟨_, rfl⟩
  have HBD : Hid (Below W.heap.size W wd) := by show Below _ _ _; rw [← hwd]; exact (Below.refl _ _).drew
  have HFD := Lib.hid (HF.out.below HBD.out)
  refine wp_region_held_drew (S := fun X => AgF n₀ Bm Bx bm B A A' A4 c c' cap IB IA M x X) (by kernel_rfl) (by rw [hwd]; exact HFD.out) (fun hHeld => ?_)
  rw [hwd] at hHeld ⊢
  clear hwd
  refine takeV 0 (some 11) ((.pointer (some ⟨bm, 0, none⟩))) rfl rfl (by kernel_rfl) (by kernel_rfl) (by kernel_rfl) (fun _ _ _ h => h) (by rfl) (by (intro _w hSw; have k0 := hSw.mts.1.1; clear hSw; go_simp)) (by assumption) ?_
  simp only [Act.put, List.setIfInBounds_toArray, List.set_cons_zero, List.set_cons_succ]
  refine takeV 1 (some 12) ((.pointer (some ⟨bm, 0, none⟩))) rfl rfl (by kernel_rfl) (by kernel_rfl) (by kernel_rfl) (fun _ _ _ h => h) (by rfl) (by (intro _w _hSw; (try dsimp only at _hSw); go_simp)) (by assumption) ?_
  simp only [Act.put, List.setIfInBounds_toArray, List.set_cons_zero, List.set_cons_succ]
  refine takeV 2 (some 13) ((.pointer (some ⟨bm, 3, none⟩))) rfl rfl (by kernel_rfl) (by kernel_rfl) (by kernel_rfl) (fun _ _ _ h => h) (by rfl) (by (intro _w _hSw; (try dsimp only at _hSw); go_simp)) (by assumption) ?_
  simp only [Act.put, List.setIfInBounds_toArray, List.set_cons_zero, List.set_cons_succ]
  refine takeV 3 (some 14) ((.slice A4 M.length cap)) rfl rfl (by kernel_rfl) (by kernel_rfl) (by kernel_rfl) (fun _ _ _ h => h) (by rfl) (by (intro _w hSw; have k0 := hSw.a3; clear hSw; go_simp)) (by assumption) ?_
  simp only [Act.put, List.setIfInBounds_toArray, List.set_cons_zero, List.set_cons_succ]
  refine takeV 4 (some 15) ((cx)) rfl rfl (by kernel_rfl) (by kernel_rfl) (by kernel_rfl) (fun _ _ _ h => h) (by rfl) (by (intro _w hSw; have k1 := hSw.px; have k0 : _w.cell? ⟨Bx, 0, none⟩ = some cx := by { rw [← HCX.out]; simp [World.cell?, k1] }; clear hSw; go_simp)) (by assumption) ?_
  simp only [Act.put, List.setIfInBounds_toArray, List.set_cons_zero, List.set_cons_succ]
  refine takeV 5 (some 16) ((.func (.func 97) #[] #[.pointer (some ⟨Bm, 0, none⟩)])) rfl rfl (by kernel_rfl) (by kernel_rfl) (by kernel_rfl) (fun _ _ _ h => h) (by rfl) (by (intro _w _hSw; (try dsimp only at _hSw); go_simp)) (by assumption) ?_
  simp only [Act.put, List.setIfInBounds_toArray, List.set_cons_zero, List.set_cons_succ]
  have HC2 := Lib.hid (HFA.out wd HFD.out)
  refine callV 6 rfl (by kernel_rfl) (by rfl) (fun K hK => ?_)
  go_simp
  refine HC2.out.mono ?_
  rintro e w3 ⟨⟨q, rfl⟩, hb3⟩
  have HB3 := Lib.hid (HBD.out.trans (hb3.mono HBD.out.size))
  refine hK.out _ _ (hHeld.below hb3) (fun hHeld3 => ?_)
  clear hK K hHeld hb3
  try simp only [Act.put, List.setIfInBounds_toArray, List.set_cons_zero, List.set_cons_succ]
  refine takeV 7 (some 10) ((.tuple #[.int .i64 (k : Int), .bool q])) rfl rfl (by kernel_rfl) (by kernel_rfl) (by kernel_rfl) (fun _ _ _ h => h) (by rfl) (by (intro _w _hSw; (try dsimp only at _hSw); go_simp)) (by assumption) ?_
  simp only [Act.put, List.setIfInBounds_toArray, List.set_cons_zero, List.set_cons_succ]
  refine takeV 8 (some 18) ((.int .i64 (k : Int))) rfl rfl (by kernel_rfl) (by kernel_rfl) (by kernel_rfl) (fun _ _ _ h => h) (by rfl) (by (intro _w _hSw; (try dsimp only at _hSw); go_simp)) (by assumption) ?_
  simp only [Act.put, List.setIfInBounds_toArray, List.set_cons_zero, List.set_cons_succ]
  refine takeV 9 (some 19) ((.bool q)) rfl rfl (by kernel_rfl) (by kernel_rfl) (by kernel_rfl) (fun _ _ _ h => h) (by rfl) (by (intro _w _hSw; (try dsimp only at _hSw); go_simp)) (by assumption) ?_
  simp only [Act.put, List.setIfInBounds_toArray, List.set_cons_zero, List.set_cons_succ]
  refine takeV 10 (some 5) ((.int .i64 (k : Int))) rfl rfl (by kernel_rfl) (by kernel_rfl) (by kernel_rfl) (fun _ _ _ h => h) (by rfl) (by (intro _w _hSw; (try dsimp only at _hSw); go_simp)) (by assumption) ?_
  simp only [Act.put, List.setIfInBounds_toArray, List.set_cons_zero, List.set_cons_succ]
  refine takeV 11 (some 6) ((.bool q)) rfl rfl (by kernel_rfl) (by kernel_rfl) (by kernel_rfl) (fun _ _ _ h => h) (by rfl) (by (intro _w _hSw; (try dsimp only at _hSw); go_simp)) (by assumption) ?_
  simp only [Act.put, List.setIfInBounds_toArray, List.set_cons_zero, List.set_cons_succ]
  refine wpAnyH_done (by kernel_rfl) ?_ _
  have HFX := Lib.hid (HF.out.below HB3.out)
  obtain ⟨k1, k2⟩ : Hid (w3.cell? ⟨Bm, 0, none⟩ = some (.pointer (some ⟨bm, 0, none⟩))) ∧ Hid (w3.cell? ⟨bm, 3, none⟩ = some (.slice A4 M.length cap)) := ⟨HFX.out.mts.1.1, HFX.out.a3⟩
  have hcap : Hid (M.length ≤ cap) := by
    obtain ⟨A9, c9, e9, _, hcm, _, _, _⟩ := HFX.out.o.form
    injection e9 with e1 e2 e3
    subst e3
    exact hcm
  have hsl := fun W' => sliceR_from A4 M.length cap k hkl hcap.out W'
  obtain ⟨A5, hA5⟩ : ∃ A5, cut1 A4 cap k = A5 := ⟨_, rfl⟩
  rw [hA5] at hsl
  have HA5 := Lib.hid hA5
  obtain ⟨N1, hN1⟩ : ∃ N1, M.length = N1 := ⟨_, rfl⟩
  have HN1 := Lib.hid hN1
  obtain ⟨k1, k2⟩ := And.intro k1.out k2.out
  clear hA5 hN1 hHeld3
  have HDL : Hid ((agR IB IA M x.l).length ≤ M.length - k) := by
    have h9 := congrArg List.length HSP.out
    rw [List.length_drop, List.length_append] at h9
    show _ ≤ _
    omega
  have HEL := Lib.hid (fun j (hj : j < M.length - k) => ag_elem HFX.out HSP.out (fun y hy => by simpa using (List.mem_filter.1 hy).2) hj)
  rw [HA5.out] at HEL
  have HJ3 : Hid (J [] w3) := abides_toJ hA hJ HB3.out
  obtain ⟨N2, hN2⟩ : ∃ N2, M.length - k = N2 := ⟨_, rfl⟩
  rw [hN2] at HEL HDL hsl
  obtain ⟨ag, hag⟩ : ∃ ag, agR IB IA M x.l = ag := ⟨_, rfl⟩
  rw [hag] at HEL HDL
  have HML2 : Hid (N2 ≤ 1000000000 ∧ N2 ≤ N) := by have := HML.out; show _ ∧ _; omega
  have HN2 := Lib.hid hN2
  clear hcap HB3 HF HFD HBD HN1 HA5 hJ HML hN2
  gi_wp2_with fail
  gi_loopw [8, 27] (fun _ y wr => ∃ j : Nat, y = .int .i64 (j : Int) ∧ j ≤ ag.length ∧ J (ag.take j) wr ∧ Hid (KeepJ n₀ Bm Bx w3 wr)) (fun _ y _ => N2 - (intOf y).toNat)
  case atStart => exact ⟨0, rfl, by omega, HJ3.out, KeepJ.refl _ _ _ _⟩
  case round =>
    obtain ⟨j, rfl, hj, hJj, HKP⟩ := hrel
    have HF4 := Lib.hid (HFX.out.keep HKP.out)
    by_cases hjL : j < N2
    · have hji : (j : Int) < (N2 : Int) := by omega
      obtain ⟨y, g, hyM, hA5g, hcell, hcase⟩ := HEL.out j hjL
      subst hA5g
      have hc := hcell wr HF4.out
      have HC4 := Lib.hid (HST.out wr HF4.out y hyM)
      have hpx := HF4.out.px
      have HJ4 := Lib.hid hJj
      have HCS := Lib.hid hcase
      have k4 : wr.cell? ⟨Bx, 0, none⟩ = some cx := by rw [← HCX.out]; simp [World.cell?, hpx]
      obtain ⟨q2, hq2⟩ : ∃ q2, agO IB IA y.l x.l = q2 := ⟨_, rfl⟩
      rw [hq2] at HC4 HCS
      obtain ⟨cy, hcy⟩ : ∃ v, cellR y = v := ⟨_, rfl⟩
      rw [hcy] at HC4 hc
      have HYM := Lib.hid hyM
      have HCY := Lib.hid hcy
      clear hcell hcase hJj hyM hpx hq2 hcy
      gi_wp2_with fail
      refine ⟨trivial, wide_deepJ _, ?_⟩
      refine (callsIn_wide.2 HC4.out).mono ?_
      rintro e w4 ⟨rfl, hb4⟩
      have HB4 := Lib.hid hb4
      have HF5 := Lib.hid (HF4.out.below hb4)
      have HK4 := Lib.hid (HKP.out.trans (keepJ_below hb4 HF4.out.n HF4.out.lts.1 HF4.out.lts.2))
      have HJ5 := Lib.hid (abides_toJ hA HJ4.out hb4)
      clear hb4
      by_cases h0 : q2 = 0
      · subst h0
        obtain ⟨hja, HTK⟩ : j < ag.length ∧ Hid (ag.take (j + 1) = ag.take j ++ [y]) := by
          rcases HCS.out with ⟨a, b, _⟩ | ⟨_, b⟩
          · exact ⟨a, b⟩
          · exact absurd b (by omega)
        obtain ⟨fn, tmps, assign, body, hy, hR⟩ := hY (n - 1) _ y w4 HYM.out HJ5.out (by have := HML2.out; have := HDL.out; rw [List.length_take]; omega)
        rw [HCY.out] at hy
        have hy' : (Instr.yield lp #[cy]).run Try.prog w4 = .ok (.round lp fn tmps assign body) w4 := hy
        have HRR := Lib.hid hR
        clear hy hR
        gi_wp2_with fail
        refine ⟨wide_deepJ _, ?_⟩
        refine HRR.out.mono ?_
        rintro e W5 (⟨rfl, hJ5, hk5⟩ | ⟨rfl, hJx5⟩)
        · have HK5 := Lib.hid (HK4.out.trans hk5)
          rw [← HTK.out] at hJ5
          clear hk5 hc hy'
          have hml := HML2.out
          have hdl := HDL.out
          gi_wp2_with fail
          go_roundw
          case rel => exact ⟨j + 1, by go_num, by omega, hJ5, HK5.out⟩
          case measure => simp [intOf]; omega
        · gi_wp2
          refine bodyPost_ret (results_none rfl _ _ _) rfl ?_
          exact ⟨⟨_, rfl⟩, .inr ⟨ag.take (j + 1), by rw [hag]; exact List.take_prefix _ _, by rw [HTK.out]; exact hJx5⟩⟩
      · have hja : ag.take j = ag := List.take_of_length_le (by
          rcases HCS.out with ⟨_, _, c0⟩ | ⟨a, _⟩
          · exact absurd c0 h0
          · exact a)
        rw [hja] at HJ5
        have h0b : (q2 != 0) = true := by simp [h0]
        gi_wp2_with fail
        refine ⟨fun _ h => (by cases h), ?_⟩
        gi_wp2
        refine bodyPost_ret (results_none rfl _ _ _) rfl ?_
        exact ⟨⟨_, rfl⟩, .inl (by rw [hag]; exact HJ5.out)⟩
    · have hji : ¬ (j : Int) < (N2 : Int) := by omega
      rw [List.take_of_length_le (by have := HDL.out; omega)] at hJj
      gi_wp2_with fail
      go_end0
      exact ⟨⟨_, rfl⟩, .inl (by first | exact hJj | (rw [hag]; exact hJj))⟩
theorem agree_stops (n₀ Bm Bx bm B N : Nat) (A A' A4 : Option Addr) (c c' cap : Nat) (IB IA : List Nat) (M : List Rw) (x : Rw) (n : Nat) (w : World) (h : AgF n₀ Bm Bx bm B A A' A4 c c' cap IB IA M x w)
    (hBm : n₀ ≤ Bm) (hgm : ∀ a, A4 = some a → a.block ≠ bm) (hap : ∀ a, A4 = some a → (∀ y ∈ M, y.l ≠ [] → ∀ b o, y.A = some ⟨b, o, none⟩ → b ≠ a.block) ∧ (x.l ≠ [] → ∀ b o, x.A = some ⟨b, o, none⟩ → b ≠ a.block) ∧ (IB ≠ [] → ∀ b o, A = some ⟨b, o, none⟩ → b ≠ a.block) ∧ (IA ≠ [] → ∀ b o, A' = some ⟨b, o, none⟩ → b ≠ a.block))
    (hu : M.Pairwise fun y z => ordM IB y.l z.l ≤ 0) (hlen : IB.length = IA.length) (hi : ∀ r ∈ M, ∀ i ∈ IB, i < r.l.length) (hj : ∀ i ∈ IA, i < x.l.length) (hlI : IB.length ≤ 1000000000) (hl : M.length ≤ 1000000000) (hN : M.length ≤ N) :
    SeqStopsK Fence.wide n Try.prog 96 #[.pointer (some ⟨Bm, 0, none⟩), .pointer (some ⟨Bx, 0, none⟩)] (fun y : { y : Rw // y ∈ M } => #[cellR y.1]) (KeepJ n₀ Bm Bx) (fun ys => ys.map (·.1) = agR IB IA M x.l) (fun q => q.map (·.1) <+: agR IB IA M x.l) N w := fun lp J Jx W hW hA hAx hY h0' => by
  have hJ2 : AbidesFrom W.heap.size (fun (pre : List Rw) X => ∃ ps : List { y : Rw // y ∈ M }, ps.map (·.1) = pre ∧ J ps X) := fun pre A B row ⟨ps, e, hj⟩ hg hr => ⟨ps, e, hA ps A B row hj hg hr⟩
  have hH : HandsJ n₀ Bm Bx lp N M (fun pre X => ∃ ps : List { y : Rw // y ∈ M }, ps.map (·.1) = pre ∧ J ps X) (fun pre X => ∃ ps : List { y : Rw // y ∈ M }, ps.map (·.1) = pre ∧ Jx ps X) := fun m pre y W1 hyM ⟨ps, e, hj⟩ hl => by
    have hl2 : ps.length < N := by rw [← e, List.length_map] at hl; exact hl
    obtain ⟨fn, tmps, assign, body, hy, hR⟩ := YieldAt.anyDepth m (hY ps ⟨y, hyM⟩ W1 hj hl2)
    refine ⟨fn, tmps, assign, body, hy, hR.mono ?_⟩
    rintro e' W' (⟨rfl, h1, h2⟩ | ⟨rfl, h1⟩)
    · exact .inl ⟨rfl, ⟨ps ++ [⟨y, hyM⟩], by rw [List.map_append, e]; rfl, h1⟩, h2⟩
    · exact .inr ⟨rfl, ⟨ps ++ [⟨y, hyM⟩], by rw [List.map_append, e]; rfl, h1⟩⟩
  refine (agree_in n₀ Bm Bx bm B _ lp N A A' A4 c c' cap IB IA M x _ _ hJ2 hH n W (h.below hW) hBm hgm hap hu hlen hi hj hlI hl hN ⟨[], rfl, h0'⟩).mono ?_
  rintro e W' ⟨hv, ⟨ps, e1, hj⟩ | ⟨q, hq, ps, e1, hx⟩⟩
  · exact ⟨hv, .inl ⟨ps, e1, hj⟩⟩
  · exact ⟨hv, .inr ⟨ps, by show List.map _ ps <+: _; rw [e1]; exact hq, hx⟩⟩
set_option maxHeartbeats 400000 in
/-- the iterator: two variables are made -/
theorem agreeing_any (pm : Addr) (x : Rw) (w : World) :
    Calls Try.prog 55 #[.pointer (some pm), cellR x] w fun e w' => e = .returned (.func (.func 96) #[] #[.pointer (some ⟨w.heap.size, 0, none⟩), .pointer (some ⟨w.heap.size + 1, 0, none⟩)]) ∧
      w'.heap[w.heap.size]? = some (.cells #[.pointer (some pm)] 81 (0, 0)) ∧ w'.heap[w.heap.size + 1]? = some (.cells #[cellR x] 46 (0, 0)) ∧ Below w.heap.size w w' := by
  obtain ⟨cx, hcx⟩ : ∃ v, cellR x = v := ⟨_, rfl⟩
  have HCX := Lib.hid hcx
  rw [hcx]
  go_enter Try.func55, Try.ntmps55
  go_wp2
  go_ret
  refine ⟨rfl, ?_, ?_, ((Below.refl w.heap.size w).alloc (Nat.le_refl _) _).alloc (by simp) _⟩
  · rw [((Below.refl (w.alloc (.cells #[.pointer (some pm)] 81)).heap.size _).alloc (Nat.le_refl _) (.cells #[cx] 46)).block w.heap.size (by simp)]
    exact World.alloc_heap_new _ _
  · have h := World.alloc_heap_new (w.alloc (.cells #[.pointer (some pm)] 81)) (.cells #[cx] 46)
    rw [show (w.alloc (.cells #[.pointer (some pm)] 81)).heap.size = w.heap.size + 1 by simp] at h
    exact h
end Go.Proofs.Ytofmfainhflmmaa
