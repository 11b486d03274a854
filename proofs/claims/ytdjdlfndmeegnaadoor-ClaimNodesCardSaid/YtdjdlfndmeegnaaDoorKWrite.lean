/-
  CONTRACT: Write, of a form that may be.
-/
import Derived.Test.YtdjdlfndmeegnaaDoorKPrts
import Derived.Test.YtdjdlfndmeegnaaDoorKFormC
import Derived.Test.YtdjdlfndmeegnaaDoorRegion
import Derived.Deep.RegionHeld3
import Derived.Deep.RegionWith
namespace Go.Proofs.YtdjdlfndmeegnaaDoor
open Go.RowKit
open Go.Deep

set_option maxRecDepth 100000 in
set_option maxHeartbeats 4000000 in
theorem write_yes (k : Nat) (e : En) (a : ByteArray) (v old : Tm) (fr til : Int) (w : World) (hf : FmS ⟨(k : Int), e, a, v, old, fr, til⟩) (h1 : 1 ≤ k) (h2 : k ≤ 4) (hn : NamesAt w)
    (hb : formB ⟨(k : Int), e, a, v, old, fr, til⟩ = true) (hfr : minT ≤ fr) (hto : til ≤ maxT) :
    Calls Tryd.prog 7 #[.agg #[.int .i64 (k : Int), .int .i64 e.k, .int .i64 e.n, .string e.nm, .int .i64 e.vk, .int .i64 e.vn, .string e.vs, .string a, .bool v.ent, .int .i64 v.vk, .int .i64 v.vn, .string v.vs, .int .i64 v.e.k, .int .i64 v.e.n, .string v.e.nm, .int .i64 v.e.vk, .int .i64 v.e.vn, .string v.e.vs, .bool old.ent, .int .i64 old.vk, .int .i64 old.vn, .string old.vs, .int .i64 old.e.k, .int .i64 old.e.n, .string old.e.nm, .int .i64 old.e.vk, .int .i64 old.e.vn, .string old.e.vs, .int .i64 fr, .int .i64 til]] w (WrEnd ⟨(k : Int), e, a, v, old, fr, til⟩ w) := by
  obtain ⟨i0, hi, hz0, hz1, hz2⟩ := info_parts infoN
  have HK := Lib.hid (kid_all ⟨(k : Int), e, a, v, old, fr, til⟩ (by show (1 : Int) ≤ k; omega) (by show (k : Int) ≤ 4; omega))
  have HMay := Lib.hid (fun W => frmMay_any ⟨(k : Int), e, a, v, old, fr, til⟩ W hf)
  rw [hb] at HMay
  clear hb
  have hk5 : (k : Int) < 5 := by omega
  have hk0 : decide ((0 : Int) ≤ k) = true := decide_eq_true (by omega)
  have HN := Lib.hid hn
  have HFR := Lib.hid hfr
  have HTO := Lib.hid hto
  clear hn hfr hto
  obtain ⟨N, hN⟩ : ∃ N, opS k = N := ⟨_, rfl⟩
  obtain ⟨w0, hw0⟩ : ∃ w0, (w.alloc (.cells #[.int .i64 (k : Int), .int .i64 e.k, .int .i64 e.n, .string e.nm, .int .i64 e.vk, .int .i64 e.vn, .string e.vs, .string a, .bool v.ent, .int .i64 v.vk, .int .i64 v.vn, .string v.vs, .int .i64 v.e.k, .int .i64 v.e.n, .string v.e.nm, .int .i64 v.e.vk, .int .i64 v.e.vn, .string v.e.vs, .bool old.ent, .int .i64 old.vk, .int .i64 old.vn, .string old.vs, .int .i64 old.e.k, .int .i64 old.e.n, .string old.e.nm, .int .i64 old.e.vk, .int .i64 old.e.vn, .string old.e.vs, .int .i64 fr, .int .i64 til] 29)).alloc (.cells #[.int .i64 0, .int .i64 0, .int .i64 0, .string ⟨#[]⟩, .string ⟨#[]⟩, .slice none 0 0, .int .i64 0, .int .i64 0] 35) = w0 := ⟨_, rfl⟩
  have HS0 : Hid (SBx w #[.int .i64 (k : Int), .int .i64 e.k, .int .i64 e.n, .string e.nm, .int .i64 e.vk, .int .i64 e.vn, .string e.vs, .string a, .bool v.ent, .int .i64 v.vk, .int .i64 v.vn, .string v.vs, .int .i64 v.e.k, .int .i64 v.e.n, .string v.e.nm, .int .i64 v.e.vk, .int .i64 v.e.vn, .string v.e.vs, .bool old.ent, .int .i64 old.vk, .int .i64 old.vn, .string old.vs, .int .i64 old.e.k, .int .i64 old.e.n, .string old.e.nm, .int .i64 old.e.vk, .int .i64 old.e.vn, .string old.e.vs, .int .i64 fr, .int .i64 til] 29 w0) := by rw [← hw0]; exact sbx_new w _ _
  have HNw0 : Hid (NamesAt w0) := HN.out.next HS0.out.below (Nat.le_refl _)
  go_enter Tryd.func7, Tryd.ntmps7
  go_upto_region 1 with (fail)
  try rw [hw0]
  clear hw0
  refine wp_region_lit ?_
  refine wpList_load_row rfl 29 _ rfl w.heap.size rfl 29 _ (0, 0) _ HS0.out.x Tryd.underlying29 rfl sizeF ?_
  go_wp2_with fail
  refine (HMay.out _).mono ?_
  rintro e9 w1 ⟨rfl, hb⟩
  have HS1 := Lib.hid (HS0.out.next hb)
  have HNw1 := Lib.hid (HNw0.out.next hb (Nat.le_refl _))
  clear hb
  have c0 : w1.cell? ⟨w.heap.size, 0, none⟩ = some (.int .i64 (k : Int)) := HS1.out.x.cell 0
  have cn : w1.cell? ⟨0, k, none⟩ = some (.string N) := by rw [HNw1.out.2 k (by omega), hN]
  go_wp2_with fail
  refine (nameNode_any N _).mono ?_
  rintro e9 w2 ⟨rfl, hb⟩
  have HS2 := Lib.hid (HS1.out.next hb)
  clear hb c0 cn
  have HLI2 : Hid (Below w2.heap.size w2 (w2.alloc (.cells #[.int .i64 2, .int .i64 0, .int .i64 0, .string ⟨#[]⟩, .string N, .slice none 0 0, .int .i64 0, .int .i64 0] 35))) := (Below.refl _ _).alloc (Nat.le_refl _) _
  have HS2' := Lib.hid (HS2.out.next HLI2.out)
  have c0 : (w2.alloc (.cells #[.int .i64 2, .int .i64 0, .int .i64 0, .string ⟨#[]⟩, .string N, .slice none 0 0, .int .i64 0, .int .i64 0] 35)).cell? ⟨w.heap.size, 0, none⟩ = some (.int .i64 (k : Int)) := HS2'.out.x.cell 0
  have HG2 : Hid (Gat (w.heap.size + 2) (w2.alloc (.cells #[.int .i64 2, .int .i64 0, .int .i64 0, .string ⟨#[]⟩, .string N, .slice none 0 0, .int .i64 0, .int .i64 0] 35)) (.slice (some ⟨w2.heap.size, 0, none⟩) 1 1) [(namN N, none, 0)]) := Gat.one w2 (namN N) none 0 _ rfl rfl HS2.out.size
  go_wp2_with fail
  refine (parts_any k _ h1 h2).mono ?_
  rintro e9 w4 ⟨rfl, hp, hb⟩
  have HS4 := Lib.hid (HS2'.out.next hb)
  have HG4 := Lib.hid (HG2.out.next hb)
  have HP4 := Lib.hid hp
  clear hp hb c0 HS0 HNw0 HS1 HNw1 HS2 HLI2 HS2' HG2
  go_wp2
  have hz2w : (w2.alloc (.cells #[.int .i64 2, .int .i64 0, .int .i64 0, .string ⟨#[]⟩, .string N, .slice none 0 0, .int .i64 0, .int .i64 0] 35)).heap.size = w2.heap.size + 1 := by simp
  rw [hz2w] at HP4
  obtain ⟨bp, hbp⟩ : ∃ bp, w2.heap.size + 1 = bp := ⟨_, rfl⟩
  rw [hbp] at HP4 ⊢
  clear hbp hz2w
  obtain ⟨M, hM⟩ : ∃ M, (prts k).length = M := ⟨_, rfl⟩
  have hM5 : M ≤ 5 := by rw [← hM]; exact prts_len _
  have HMM := Lib.hid hM
  rw [hM]
  clear hM
  go_loopg [4, 6, 21] M (fun g x _ y wr => ∃ (j : Nat) (l : List (Nd × Option Addr × Nat)), y = .int .i64 j ∧ j + g = M ∧ Hid (Gat (w.heap.size + 2) wr x l) ∧ Hid (l.map (·.1) = namN N :: ((prts k).take j).flatMap (kidP ⟨(k : Int), e, a, v, old, fr, til⟩)) ∧ Hid (l.length ≤ j + 1) ∧ Hid (SBx w #[.int .i64 (k : Int), .int .i64 e.k, .int .i64 e.n, .string e.nm, .int .i64 e.vk, .int .i64 e.vn, .string e.vs, .string a, .bool v.ent, .int .i64 v.vk, .int .i64 v.vn, .string v.vs, .int .i64 v.e.k, .int .i64 v.e.n, .string v.e.nm, .int .i64 v.e.vk, .int .i64 v.e.vn, .string v.e.vs, .bool old.ent, .int .i64 old.vk, .int .i64 old.vn, .string old.vs, .int .i64 old.e.k, .int .i64 old.e.n, .string old.e.nm, .int .i64 old.e.vk, .int .i64 old.e.vn, .string old.e.vs, .int .i64 fr, .int .i64 til] 29 wr) ∧ Hid (Blk wr bp (prtC k) 3))
  case atStart => exact ⟨0, _, rfl, by omega, HG4, rfl, Nat.le_refl _, HS4, HP4⟩
  case round =>
    obtain ⟨j, l, rfl, hj, HGw, HM, HLN, HSw, HPw⟩ := hrel
    clear HS4 HG4 HP4
    cases gk with
    | zero =>
      have hjz : ¬ ((j : Int) < (M : Int)) := by omega
      obtain ⟨gg, cap, hu, _, _, _⟩ := HGw.out.form
      subst hu
      have hsl := HGw.out.sl (by have := HLN.out; omega)
      have HKL : Hid (l.map (·.1) = kidL ⟨(k : Int), e, a, v, old, fr, til⟩) := by
        show _ = _
        rw [HM.out, List.take_of_length_le (by rw [HMM.out]; omega), ← hN]
        exact HK.out
      rw [HKL.out] at hsl
      obtain ⟨hln, hsl⟩ := hsl
      rw [hln]
      have HSL := Lib.hid hsl
      clear hsl hln HKL
      obtain ⟨cs, hcs, hz⟩ := HSw.out.z
      obtain ⟨z0, z1, z2, z3, z4, z5, z6, z7, rfl⟩ := arr8 hcs
      have zc0 : wr.cell? ⟨w.heap.size + 1, 0, none⟩ = some z0 := hz.cell 0
      have zf0 := hz.fz 0
      have zc1 : wr.cell? ⟨w.heap.size + 1, 1, none⟩ = some z1 := hz.cell 1
      have zf1 := hz.fz 1
      have zc2 : wr.cell? ⟨w.heap.size + 1, 2, none⟩ = some z2 := hz.cell 2
      have zf2 := hz.fz 2
      have zc3 : wr.cell? ⟨w.heap.size + 1, 3, none⟩ = some z3 := hz.cell 3
      have zf3 := hz.fz 3
      have zc4 : wr.cell? ⟨w.heap.size + 1, 4, none⟩ = some z4 := hz.cell 4
      have zf4 := hz.fz 4
      have zc5 : wr.cell? ⟨w.heap.size + 1, 5, none⟩ = some z5 := hz.cell 5
      have zf5 := hz.fz 5
      have zc6 : wr.cell? ⟨w.heap.size + 1, 6, none⟩ = some z6 := hz.cell 6
      have zf6 := hz.fz 6
      have zc7 : wr.cell? ⟨w.heap.size + 1, 7, none⟩ = some z7 := hz.cell 7
      have zf7 := hz.fz 7
      have hz9 := hz.set8 (.int .i64 3) (.int .i64 0) (.int .i64 0) (.string ⟨#[]⟩) (.string ⟨#[]⟩) (.slice (some ⟨gg, 0, none⟩) (kidL ⟨(k : Int), e, a, v, old, fr, til⟩).length cap) (.int .i64 0) (.int .i64 0)
      have hb9 := below_set8 (W := wr) (B := w.heap.size + 1) (b := w.heap.size + 1) (Nat.le_refl _) (.int .i64 3) (.int .i64 0) (.int .i64 0) (.string ⟨#[]⟩) (.string ⟨#[]⟩) (.slice (some ⟨gg, 0, none⟩) (kidL ⟨(k : Int), e, a, v, old, fr, til⟩).length cap) (.int .i64 0) (.int .i64 0)
      have hs9 := size_set8 (W := wr) (b := w.heap.size + 1) (.int .i64 3) (.int .i64 0) (.int .i64 0) (.string ⟨#[]⟩) (.string ⟨#[]⟩) (.slice (some ⟨gg, 0, none⟩) (kidL ⟨(k : Int), e, a, v, old, fr, til⟩).length cap) (.int .i64 0) (.int .i64 0)
      have hk9 : ∀ b', w.heap.size + 2 ≤ b' → ((((((((wr.setCell ⟨w.heap.size + 1, 0, none⟩ (.int .i64 3)).setCell ⟨w.heap.size + 1, 1, none⟩ (.int .i64 0)).setCell ⟨w.heap.size + 1, 2, none⟩ (.int .i64 0)).setCell ⟨w.heap.size + 1, 3, none⟩ (.string ⟨#[]⟩)).setCell ⟨w.heap.size + 1, 4, none⟩ (.string ⟨#[]⟩)).setCell ⟨w.heap.size + 1, 5, none⟩ (.slice (some ⟨gg, 0, none⟩) (kidL ⟨(k : Int), e, a, v, old, fr, til⟩).length cap)).setCell ⟨w.heap.size + 1, 6, none⟩ (.int .i64 0)).setCell ⟨w.heap.size + 1, 7, none⟩ (.int .i64 0)).heap[b']? = wr.heap[b']? := fun b' hb' => heap_off8 (by omega) (.int .i64 3) (.int .i64 0) (.int .i64 0) (.string ⟨#[]⟩) (.string ⟨#[]⟩) (.slice (some ⟨gg, 0, none⟩) (kidL ⟨(k : Int), e, a, v, old, fr, til⟩).length cap) (.int .i64 0) (.int .i64 0)
      have HBE := Lib.hid (HSw.out.below.trans (hb9.mono (by omega)))
      have HSE : Hid (SlN 2 ((((((((wr.setCell ⟨w.heap.size + 1, 0, none⟩ (.int .i64 3)).setCell ⟨w.heap.size + 1, 1, none⟩ (.int .i64 0)).setCell ⟨w.heap.size + 1, 2, none⟩ (.int .i64 0)).setCell ⟨w.heap.size + 1, 3, none⟩ (.string ⟨#[]⟩)).setCell ⟨w.heap.size + 1, 4, none⟩ (.string ⟨#[]⟩)).setCell ⟨w.heap.size + 1, 5, none⟩ (.slice (some ⟨gg, 0, none⟩) (kidL ⟨(k : Int), e, a, v, old, fr, til⟩).length cap)).setCell ⟨w.heap.size + 1, 6, none⟩ (.int .i64 0)).setCell ⟨w.heap.size + 1, 7, none⟩ (.int .i64 0)) (fun b => b < ((((((((wr.setCell ⟨w.heap.size + 1, 0, none⟩ (.int .i64 3)).setCell ⟨w.heap.size + 1, 1, none⟩ (.int .i64 0)).setCell ⟨w.heap.size + 1, 2, none⟩ (.int .i64 0)).setCell ⟨w.heap.size + 1, 3, none⟩ (.string ⟨#[]⟩)).setCell ⟨w.heap.size + 1, 4, none⟩ (.string ⟨#[]⟩)).setCell ⟨w.heap.size + 1, 5, none⟩ (.slice (some ⟨gg, 0, none⟩) (kidL ⟨(k : Int), e, a, v, old, fr, til⟩).length cap)).setCell ⟨w.heap.size + 1, 6, none⟩ (.int .i64 0)).setCell ⟨w.heap.size + 1, 7, none⟩ (.int .i64 0)).heap.size) (some ⟨gg, 0, none⟩) (kidL ⟨(k : Int), e, a, v, old, fr, til⟩)) := (HSL.out.keep (fun b hb => hk9 b hb.1)).mono (fun b hb => by rw [hs9]; exact hb.2)
      have HZ9 := Lib.hid hz9
      clear hz9 hb9 hs9 hk9
      go_wp2
      have r0 := HZ9.out.cell 0
      have r1 := HZ9.out.cell 1
      have r2 := HZ9.out.cell 2
      have r3 := HZ9.out.cell 3
      have r4 := HZ9.out.cell 4
      have r5 := HZ9.out.cell 5
      have r6 := HZ9.out.cell 6
      have r7 := HZ9.out.cell 7
      clear zc0 zf0 zc1 zf1 zc2 zf2 zc3 zf3 zc4 zf4 zc5 zf5 zc6 zf6 zc7 zf7
      refine bodyPost_ret (v := .tuple #[.agg #[.int .i64 3, .int .i64 0, .int .i64 0, .string ⟨#[]⟩, .string ⟨#[]⟩, .slice (some ⟨gg, 0, none⟩) (kidL ⟨(k : Int), e, a, v, old, fr, til⟩).length cap, .int .i64 0, .int .i64 0], .int .i64 0]) ?_ rfl ⟨_, _, rfl, HSE.out, HBE.out⟩
      rw [results_cell_tmp rfl]
      go_simp
    | succ g =>
      have hjz : (j : Int) < (M : Int) := by omega
      have hjn : j < (prts k).length := by rw [HMM.out]; omega
      obtain ⟨p, hp⟩ : ∃ p, (prts k)[j] = p := ⟨_, rfl⟩
      have HT : Hid ((prts k).take (j + 1) = (prts k).take j ++ [p]) := by show _ = _; rw [List.take_add_one, List.getElem?_eq_getElem hjn, hp]; rfl
      have hp4 : p ≤ 4 := prts_le k p (by rw [← hp]; exact List.getElem_mem hjn)
      have cp : wr.cell? ⟨bp, j, none⟩ = some (.int .i64 (p : Int)) := by
        rw [HPw.out.cell]
        unfold prtC
        rw [List.getElem?_toArray, List.getElem?_map, List.getElem?_eq_getElem hjn, hp]
        rfl
      clear hp
      have hp5 : p = 0 ∨ p = 1 ∨ p = 2 ∨ p = 3 ∨ p = 4 := by omega
      rcases hp5 with rfl | rfl | rfl | rfl | rfl
      · -- the entity
        have cp0 : wr.cell? ⟨bp, j, none⟩ = some (.int .i64 0) := cp
        clear cp
        have c1 : wr.cell? ⟨w.heap.size, 1, none⟩ = some (.int .i64 e.k) := HSw.out.x.cell 1
        have c2 : wr.cell? ⟨w.heap.size, 2, none⟩ = some (.int .i64 e.n) := HSw.out.x.cell 2
        have c3 : wr.cell? ⟨w.heap.size, 3, none⟩ = some (.string e.nm) := HSw.out.x.cell 3
        have c4 : wr.cell? ⟨w.heap.size, 4, none⟩ = some (.int .i64 e.vk) := HSw.out.x.cell 4
        have c5 : wr.cell? ⟨w.heap.size, 5, none⟩ = some (.int .i64 e.vn) := HSw.out.x.cell 5
        have c6 : wr.cell? ⟨w.heap.size, 6, none⟩ = some (.string e.vs) := HSw.out.x.cell 6
        go_wp2_with fail
        refine (entNode_any e _).mono ?_
        rintro e9 w6 ⟨KK, cc, rfl, hsl, hb⟩
        obtain ⟨X, hX⟩ : ∃ X, entN e = X := ⟨_, rfl⟩
        rw [hX] at hsl ⊢
        have HSLw : Hid (SlN 1 w6 (Fr (w.heap.size + 2) w6) KK X.kids) := hsl.fr (fun _ _ => rfl) (Nat.le_refl _) (by have := HSw.out.size; omega)
        clear hsl
        have HGq := Lib.hid (HGw.out.next hb)
        have HSq := Lib.hid (HSw.out.next hb)
        have HPq := Lib.hid (HPw.out.next hb HPw.out.lt)
        clear hb HGw HSw HPw
        have HGw := HGq
        have HSw := HSq
        have HPw := HPq
        clear HGq HSq HPq
        clear cp0
        have HLI : Hid (Below w6.heap.size w6 (w6.alloc (.cells #[.int .i64 X.k, .int .i64 X.vk, .int .i64 X.vn, .string X.vs, .string X.s, .slice KK X.kids.length cc, .int .i64 X.ln, .int .i64 X.co] 35))) := (Below.refl _ _).alloc (Nat.le_refl _) _
        have HGL := Lib.hid (HGw.out.next HLI.out)
        have HKL : Hid (SlN 1 (w6.alloc (.cells #[.int .i64 X.k, .int .i64 X.vk, .int .i64 X.vn, .string X.vs, .string X.s, .slice KK X.kids.length cc, .int .i64 X.ln, .int .i64 X.co] 35)) (Fr (w.heap.size + 2) (w6.alloc (.cells #[.int .i64 X.k, .int .i64 X.vk, .int .i64 X.vn, .string X.vs, .string X.s, .slice KK X.kids.length cc, .int .i64 X.ln, .int .i64 X.co] 35))) KK X.kids) := HSLw.out.fr (fun b hb => HLI.out.block b hb.2.1) HLI.out.size (Nat.le_refl _)
        have HLC := Lib.hid (litN w6 X KK X.kids.length cc)
        have HBS : Hid (w.heap.size + 2 ≤ (w6.alloc (.cells #[.int .i64 X.k, .int .i64 X.vk, .int .i64 X.vn, .string X.vs, .string X.s, .slice KK X.kids.length cc, .int .i64 X.ln, .int .i64 X.co] 35)).heap.size) := by have h1 := HLI.out.size; have h2 := HSw.out.size; show _ ≤ _; omega
        go_wp2_with (at_builtin; refine wpList_append_own _ rfl _ _ 33 rfl (w.heap.size + 2) 35 i0 (.agg #[.int .i64 0, .int .i64 0, .int .i64 0, .string ⟨#[]⟩, .string ⟨#[]⟩, .slice none 0 0, .int .i64 0, .int .i64 0]) 8 96 Tryd.underlying33 hi hz0 hz1 hz2 rfl (by decide) _ _ _ rfl HGL.out.own ⟨w6.heap.size, 0, none⟩ 1 1 (cellsN X (.slice KK X.kids.length cc)) rfl rfl HLC.out (cellsN_one _ _ _ _) (by have := HLN.out; have : 100 ≤ maxLen := (by decide); omega) (by have := HLN.out; omega) HBS.out ?_; intro v1 w8 hown hgrow hnil; have HV8 : Hid (Gat (w.heap.size + 2) w8 v1 (l ++ [(X, KK, cc)])) := HGL.out.snoc (X, KK, cc) HKL.out hown hgrow; have HB8 : Hid (Below (w.heap.size + 2) w6 w8) := (HLI.out.mono (by have := HSw.out.size; omega)).trans (HGL.out.below hgrow HBS.out); have HP8 : Hid (Blk w8 bp (prtC k) 3) := (HPw.out.next HLI.out HPw.out.lt).grown HGL.out.own hgrow (by decide); clear hown hgrow hnil)
        go_roundg g
        case measure => omega
        case rel => exact ⟨j + 1, l ++ [(X, KK, cc)], by go_num, by omega, HV8, by show _ = _; rw [List.map_append, HM.out, HT.out]; simp [kidP, hX], by rw [List.length_append]; simp only [List.length_singleton]; have := HLN.out; show _ ≤ _; omega, HSw.out.low HB8.out (Nat.le_refl _), HP8⟩
      · have cp0 : wr.cell? ⟨bp, j, none⟩ = some (.int .i64 1) := cp
        clear cp
        have c7 : wr.cell? ⟨w.heap.size, 7, none⟩ = some (.string a) := HSw.out.x.cell 7
        go_wp2_with fail
        refine (wordOf_any a _).mono ?_
        rintro e9 w5 ⟨rfl, hb⟩
        have HGq := Lib.hid (HGw.out.next hb)
        have HSq := Lib.hid (HSw.out.next hb)
        have HPq := Lib.hid (HPw.out.next hb HPw.out.lt)
        clear hb HGw HSw HPw
        have HGw := HGq
        have HSw := HSq
        have HPw := HPq
        clear HGq HSq HPq
        go_wp2_with fail
        refine (valueNode_any 7 0 a _).mono ?_
        rintro e9 w6 ⟨he, hb⟩
        obtain ⟨X, hX⟩ : ∃ X, valN 7 0 a = X := ⟨_, rfl⟩
        obtain rfl : e9 = .returned (.agg #[.int .i64 X.k, .int .i64 X.vk, .int .i64 X.vn, .string X.vs, .string X.s, .slice none X.kids.length 0, .int .i64 X.ln, .int .i64 X.co]) := by rw [he, ← hX]; rfl
        have HSLw : Hid (SlN 1 w6 (Fr (w.heap.size + 2) w6) none X.kids) := by rw [← hX]; exact SlN.nil _ _ _ _
        clear he
        have HGq := Lib.hid (HGw.out.next hb)
        have HSq := Lib.hid (HSw.out.next hb)
        have HPq := Lib.hid (HPw.out.next hb HPw.out.lt)
        clear hb HGw HSw HPw
        have HGw := HGq
        have HSw := HSq
        have HPw := HPq
        clear HGq HSq HPq
        clear cp0
        have HLI : Hid (Below w6.heap.size w6 (w6.alloc (.cells #[.int .i64 X.k, .int .i64 X.vk, .int .i64 X.vn, .string X.vs, .string X.s, .slice none X.kids.length 0, .int .i64 X.ln, .int .i64 X.co] 35))) := (Below.refl _ _).alloc (Nat.le_refl _) _
        have HGL := Lib.hid (HGw.out.next HLI.out)
        have HKL : Hid (SlN 1 (w6.alloc (.cells #[.int .i64 X.k, .int .i64 X.vk, .int .i64 X.vn, .string X.vs, .string X.s, .slice none X.kids.length 0, .int .i64 X.ln, .int .i64 X.co] 35)) (Fr (w.heap.size + 2) (w6.alloc (.cells #[.int .i64 X.k, .int .i64 X.vk, .int .i64 X.vn, .string X.vs, .string X.s, .slice none X.kids.length 0, .int .i64 X.ln, .int .i64 X.co] 35))) none X.kids) := HSLw.out.fr (fun b hb => HLI.out.block b hb.2.1) HLI.out.size (Nat.le_refl _)
        have HLC := Lib.hid (litN w6 X none X.kids.length 0)
        have HBS : Hid (w.heap.size + 2 ≤ (w6.alloc (.cells #[.int .i64 X.k, .int .i64 X.vk, .int .i64 X.vn, .string X.vs, .string X.s, .slice none X.kids.length 0, .int .i64 X.ln, .int .i64 X.co] 35)).heap.size) := by have h1 := HLI.out.size; have h2 := HSw.out.size; show _ ≤ _; omega
        go_wp2_with (at_builtin; refine wpList_append_own _ rfl _ _ 33 rfl (w.heap.size + 2) 35 i0 (.agg #[.int .i64 0, .int .i64 0, .int .i64 0, .string ⟨#[]⟩, .string ⟨#[]⟩, .slice none 0 0, .int .i64 0, .int .i64 0]) 8 96 Tryd.underlying33 hi hz0 hz1 hz2 rfl (by decide) _ _ _ rfl HGL.out.own ⟨w6.heap.size, 0, none⟩ 1 1 (cellsN X (.slice none X.kids.length 0)) rfl rfl HLC.out (cellsN_one _ _ _ _) (by have := HLN.out; have : 100 ≤ maxLen := (by decide); omega) (by have := HLN.out; omega) HBS.out ?_; intro v1 w8 hown hgrow hnil; have HV8 : Hid (Gat (w.heap.size + 2) w8 v1 (l ++ [(X, none, 0)])) := HGL.out.snoc (X, none, 0) HKL.out hown hgrow; have HB8 : Hid (Below (w.heap.size + 2) w6 w8) := (HLI.out.mono (by have := HSw.out.size; omega)).trans (HGL.out.below hgrow HBS.out); have HP8 : Hid (Blk w8 bp (prtC k) 3) := (HPw.out.next HLI.out HPw.out.lt).grown HGL.out.own hgrow (by decide); clear hown hgrow hnil)
        go_roundg g
        case measure => omega
        case rel => exact ⟨j + 1, l ++ [(X, none, 0)], by go_num, by omega, HV8, by show _ = _; rw [List.map_append, HM.out, HT.out]; simp [kidP, hX], by rw [List.length_append]; simp only [List.length_singleton]; have := HLN.out; show _ ≤ _; omega, HSw.out.low HB8.out (Nat.le_refl _), HP8⟩
      · have cp0 : wr.cell? ⟨bp, j, none⟩ = some (.int .i64 2) := cp
        clear cp
        have c18 : wr.cell? ⟨w.heap.size, 18, none⟩ = some (.bool old.ent) := HSw.out.x.cell 18
        have c19 : wr.cell? ⟨w.heap.size, 19, none⟩ = some (.int .i64 old.vk) := HSw.out.x.cell 19
        have c20 : wr.cell? ⟨w.heap.size, 20, none⟩ = some (.int .i64 old.vn) := HSw.out.x.cell 20
        have c21 : wr.cell? ⟨w.heap.size, 21, none⟩ = some (.string old.vs) := HSw.out.x.cell 21
        have c22 : wr.cell? ⟨w.heap.size, 22, none⟩ = some (.int .i64 old.e.k) := HSw.out.x.cell 22
        have c23 : wr.cell? ⟨w.heap.size, 23, none⟩ = some (.int .i64 old.e.n) := HSw.out.x.cell 23
        have c24 : wr.cell? ⟨w.heap.size, 24, none⟩ = some (.string old.e.nm) := HSw.out.x.cell 24
        have c25 : wr.cell? ⟨w.heap.size, 25, none⟩ = some (.int .i64 old.e.vk) := HSw.out.x.cell 25
        have c26 : wr.cell? ⟨w.heap.size, 26, none⟩ = some (.int .i64 old.e.vn) := HSw.out.x.cell 26
        have c27 : wr.cell? ⟨w.heap.size, 27, none⟩ = some (.string old.e.vs) := HSw.out.x.cell 27
        go_wp2_with fail
        refine (trmNode_any old _).mono ?_
        rintro e9 w6 ⟨KK, cc, rfl, hsl, hb⟩
        obtain ⟨X, hX⟩ : ∃ X, trmN old = X := ⟨_, rfl⟩
        rw [hX] at hsl ⊢
        have HSLw : Hid (SlN 1 w6 (Fr (w.heap.size + 2) w6) KK X.kids) := hsl.fr (fun _ _ => rfl) (Nat.le_refl _) (by have := HSw.out.size; omega)
        clear hsl
        have HGq := Lib.hid (HGw.out.next hb)
        have HSq := Lib.hid (HSw.out.next hb)
        have HPq := Lib.hid (HPw.out.next hb HPw.out.lt)
        clear hb HGw HSw HPw
        have HGw := HGq
        have HSw := HSq
        have HPw := HPq
        clear HGq HSq HPq
        clear cp0
        have HLI : Hid (Below w6.heap.size w6 (w6.alloc (.cells #[.int .i64 X.k, .int .i64 X.vk, .int .i64 X.vn, .string X.vs, .string X.s, .slice KK X.kids.length cc, .int .i64 X.ln, .int .i64 X.co] 35))) := (Below.refl _ _).alloc (Nat.le_refl _) _
        have HGL := Lib.hid (HGw.out.next HLI.out)
        have HKL : Hid (SlN 1 (w6.alloc (.cells #[.int .i64 X.k, .int .i64 X.vk, .int .i64 X.vn, .string X.vs, .string X.s, .slice KK X.kids.length cc, .int .i64 X.ln, .int .i64 X.co] 35)) (Fr (w.heap.size + 2) (w6.alloc (.cells #[.int .i64 X.k, .int .i64 X.vk, .int .i64 X.vn, .string X.vs, .string X.s, .slice KK X.kids.length cc, .int .i64 X.ln, .int .i64 X.co] 35))) KK X.kids) := HSLw.out.fr (fun b hb => HLI.out.block b hb.2.1) HLI.out.size (Nat.le_refl _)
        have HLC := Lib.hid (litN w6 X KK X.kids.length cc)
        have HBS : Hid (w.heap.size + 2 ≤ (w6.alloc (.cells #[.int .i64 X.k, .int .i64 X.vk, .int .i64 X.vn, .string X.vs, .string X.s, .slice KK X.kids.length cc, .int .i64 X.ln, .int .i64 X.co] 35)).heap.size) := by have h1 := HLI.out.size; have h2 := HSw.out.size; show _ ≤ _; omega
        go_wp2_with (at_builtin; refine wpList_append_own _ rfl _ _ 33 rfl (w.heap.size + 2) 35 i0 (.agg #[.int .i64 0, .int .i64 0, .int .i64 0, .string ⟨#[]⟩, .string ⟨#[]⟩, .slice none 0 0, .int .i64 0, .int .i64 0]) 8 96 Tryd.underlying33 hi hz0 hz1 hz2 rfl (by decide) _ _ _ rfl HGL.out.own ⟨w6.heap.size, 0, none⟩ 1 1 (cellsN X (.slice KK X.kids.length cc)) rfl rfl HLC.out (cellsN_one _ _ _ _) (by have := HLN.out; have : 100 ≤ maxLen := (by decide); omega) (by have := HLN.out; omega) HBS.out ?_; intro v1 w8 hown hgrow hnil; have HV8 : Hid (Gat (w.heap.size + 2) w8 v1 (l ++ [(X, KK, cc)])) := HGL.out.snoc (X, KK, cc) HKL.out hown hgrow; have HB8 : Hid (Below (w.heap.size + 2) w6 w8) := (HLI.out.mono (by have := HSw.out.size; omega)).trans (HGL.out.below hgrow HBS.out); have HP8 : Hid (Blk w8 bp (prtC k) 3) := (HPw.out.next HLI.out HPw.out.lt).grown HGL.out.own hgrow (by decide); clear hown hgrow hnil)
        go_roundg g
        case measure => omega
        case rel => exact ⟨j + 1, l ++ [(X, KK, cc)], by go_num, by omega, HV8, by show _ = _; rw [List.map_append, HM.out, HT.out]; simp [kidP, hX], by rw [List.length_append]; simp only [List.length_singleton]; have := HLN.out; show _ ≤ _; omega, HSw.out.low HB8.out (Nat.le_refl _), HP8⟩
      · have cp0 : wr.cell? ⟨bp, j, none⟩ = some (.int .i64 3) := cp
        clear cp
        have c8 : wr.cell? ⟨w.heap.size, 8, none⟩ = some (.bool v.ent) := HSw.out.x.cell 8
        have c9 : wr.cell? ⟨w.heap.size, 9, none⟩ = some (.int .i64 v.vk) := HSw.out.x.cell 9
        have c10 : wr.cell? ⟨w.heap.size, 10, none⟩ = some (.int .i64 v.vn) := HSw.out.x.cell 10
        have c11 : wr.cell? ⟨w.heap.size, 11, none⟩ = some (.string v.vs) := HSw.out.x.cell 11
        have c12 : wr.cell? ⟨w.heap.size, 12, none⟩ = some (.int .i64 v.e.k) := HSw.out.x.cell 12
        have c13 : wr.cell? ⟨w.heap.size, 13, none⟩ = some (.int .i64 v.e.n) := HSw.out.x.cell 13
        have c14 : wr.cell? ⟨w.heap.size, 14, none⟩ = some (.string v.e.nm) := HSw.out.x.cell 14
        have c15 : wr.cell? ⟨w.heap.size, 15, none⟩ = some (.int .i64 v.e.vk) := HSw.out.x.cell 15
        have c16 : wr.cell? ⟨w.heap.size, 16, none⟩ = some (.int .i64 v.e.vn) := HSw.out.x.cell 16
        have c17 : wr.cell? ⟨w.heap.size, 17, none⟩ = some (.string v.e.vs) := HSw.out.x.cell 17
        go_wp2_with fail
        refine (trmNode_any v _).mono ?_
        rintro e9 w6 ⟨KK, cc, rfl, hsl, hb⟩
        obtain ⟨X, hX⟩ : ∃ X, trmN v = X := ⟨_, rfl⟩
        rw [hX] at hsl ⊢
        have HSLw : Hid (SlN 1 w6 (Fr (w.heap.size + 2) w6) KK X.kids) := hsl.fr (fun _ _ => rfl) (Nat.le_refl _) (by have := HSw.out.size; omega)
        clear hsl
        have HGq := Lib.hid (HGw.out.next hb)
        have HSq := Lib.hid (HSw.out.next hb)
        have HPq := Lib.hid (HPw.out.next hb HPw.out.lt)
        clear hb HGw HSw HPw
        have HGw := HGq
        have HSw := HSq
        have HPw := HPq
        clear HGq HSq HPq
        clear cp0
        have HLI : Hid (Below w6.heap.size w6 (w6.alloc (.cells #[.int .i64 X.k, .int .i64 X.vk, .int .i64 X.vn, .string X.vs, .string X.s, .slice KK X.kids.length cc, .int .i64 X.ln, .int .i64 X.co] 35))) := (Below.refl _ _).alloc (Nat.le_refl _) _
        have HGL := Lib.hid (HGw.out.next HLI.out)
        have HKL : Hid (SlN 1 (w6.alloc (.cells #[.int .i64 X.k, .int .i64 X.vk, .int .i64 X.vn, .string X.vs, .string X.s, .slice KK X.kids.length cc, .int .i64 X.ln, .int .i64 X.co] 35)) (Fr (w.heap.size + 2) (w6.alloc (.cells #[.int .i64 X.k, .int .i64 X.vk, .int .i64 X.vn, .string X.vs, .string X.s, .slice KK X.kids.length cc, .int .i64 X.ln, .int .i64 X.co] 35))) KK X.kids) := HSLw.out.fr (fun b hb => HLI.out.block b hb.2.1) HLI.out.size (Nat.le_refl _)
        have HLC := Lib.hid (litN w6 X KK X.kids.length cc)
        have HBS : Hid (w.heap.size + 2 ≤ (w6.alloc (.cells #[.int .i64 X.k, .int .i64 X.vk, .int .i64 X.vn, .string X.vs, .string X.s, .slice KK X.kids.length cc, .int .i64 X.ln, .int .i64 X.co] 35)).heap.size) := by have h1 := HLI.out.size; have h2 := HSw.out.size; show _ ≤ _; omega
        go_wp2_with (at_builtin; refine wpList_append_own _ rfl _ _ 33 rfl (w.heap.size + 2) 35 i0 (.agg #[.int .i64 0, .int .i64 0, .int .i64 0, .string ⟨#[]⟩, .string ⟨#[]⟩, .slice none 0 0, .int .i64 0, .int .i64 0]) 8 96 Tryd.underlying33 hi hz0 hz1 hz2 rfl (by decide) _ _ _ rfl HGL.out.own ⟨w6.heap.size, 0, none⟩ 1 1 (cellsN X (.slice KK X.kids.length cc)) rfl rfl HLC.out (cellsN_one _ _ _ _) (by have := HLN.out; have : 100 ≤ maxLen := (by decide); omega) (by have := HLN.out; omega) HBS.out ?_; intro v1 w8 hown hgrow hnil; have HV8 : Hid (Gat (w.heap.size + 2) w8 v1 (l ++ [(X, KK, cc)])) := HGL.out.snoc (X, KK, cc) HKL.out hown hgrow; have HB8 : Hid (Below (w.heap.size + 2) w6 w8) := (HLI.out.mono (by have := HSw.out.size; omega)).trans (HGL.out.below hgrow HBS.out); have HP8 : Hid (Blk w8 bp (prtC k) 3) := (HPw.out.next HLI.out HPw.out.lt).grown HGL.out.own hgrow (by decide); clear hown hgrow hnil)
        go_roundg g
        case measure => omega
        case rel => exact ⟨j + 1, l ++ [(X, KK, cc)], by go_num, by omega, HV8, by show _ = _; rw [List.map_append, HM.out, HT.out]; simp [kidP, hX], by rw [List.length_append]; simp only [List.length_singleton]; have := HLN.out; show _ ≤ _; omega, HSw.out.low HB8.out (Nat.le_refl _), HP8⟩
      · have cp0 : wr.cell? ⟨bp, j, none⟩ = some (.int .i64 4) := cp
        clear cp
        have hr1 : -9223372036854775808 ≤ fr := HFR.out
        have hr2 : til ≤ 9223372036854775807 := HTO.out
        have c28 : wr.cell? ⟨w.heap.size, 28, none⟩ = some (.int .i64 fr) := HSw.out.x.cell 28
        have c29 : wr.cell? ⟨w.heap.size, 29, none⟩ = some (.int .i64 til) := HSw.out.x.cell 29
        by_cases hw : fr = minT ∧ til = maxT
        · have h3 : ¬ (-9223372036854775808 : Int) < fr := by have := hw.1; unfold minT at this; omega
          have h4 : ¬ til < (9223372036854775807 : Int) := by have := hw.2; unfold maxT at this; omega
          have HZZ : Hid (kidP ⟨(k : Int), e, a, v, old, fr, til⟩ 4 = []) := by show spnL _ = []; unfold spnL; rw [if_pos hw]
          clear hw hr1 hr2
          go_wp2
          go_roundg g
          case measure => omega
          case rel => exact ⟨j + 1, l, by go_num, by omega, HGw, by show _ = _; rw [HM.out, HT.out, List.flatMap_append, List.flatMap_singleton, HZZ.out, List.append_nil], by have := HLN.out; show _ ≤ _; omega, HSw, HPw⟩
        · have HX : Hid (kidP ⟨(k : Int), e, a, v, old, fr, til⟩ 4 = [prN (valN 6 fr eB) (valN 6 til eB)]) := by show spnL _ = _; unfold spnL; rw [if_neg hw]
          have h34 : (-9223372036854775808 : Int) < fr ∨ (¬ (-9223372036854775808 : Int) < fr ∧ til < (9223372036854775807 : Int)) := by
            by_cases h5 : (-9223372036854775808 : Int) < fr
            · exact .inl h5
            · refine .inr ⟨h5, ?_⟩
              have : ¬ til = maxT := fun e => hw ⟨by unfold minT; omega, e⟩
              unfold maxT at this
              omega
          clear hw hr1 hr2
          rcases h34 with h3 | ⟨h3, h4⟩
          all_goals
            go_upto_region 18 with (fail)
            clear cp0 c28 c29
            refine wp_region_held_drew (S := SBx w #[.int .i64 (k : Int), .int .i64 e.k, .int .i64 e.n, .string e.nm, .int .i64 e.vk, .int .i64 e.vn, .string e.vs, .string a, .bool v.ent, .int .i64 v.vk, .int .i64 v.vn, .string v.vs, .int .i64 v.e.k, .int .i64 v.e.n, .string v.e.nm, .int .i64 v.e.vk, .int .i64 v.e.vn, .string v.e.vs, .bool old.ent, .int .i64 old.vk, .int .i64 old.vn, .string old.vs, .int .i64 old.e.k, .int .i64 old.e.n, .string old.e.nm, .int .i64 old.e.vk, .int .i64 old.e.vn, .string old.e.vs, .int .i64 fr, .int .i64 til] 29) (by kernel_rfl) (HSw.out.next (Below.refl _ _).drew) (fun hHeld => ?_)
            have hb := (Below.refl wr.heap.size wr).drew
            have HGq := Lib.hid (HGw.out.next hb)
            have HSq := Lib.hid (HSw.out.next hb)
            have HPq := Lib.hid (HPw.out.next hb HPw.out.lt)
            clear hb HGw HSw HPw
            have HGw := HGq
            have HSw := HSq
            have HPw := HPq
            clear HGq HSq HPq
            refine takeV 0 (some 69) (u4) rfl rfl (by kernel_rfl) (by kernel_rfl) (by kernel_rfl) (fun _ _ _ h => h) (by rfl) (by (intro _w _hSw; (try dsimp only at _hSw); go_simp)) (by assumption) ?_
            simp only [Act.put, List.setIfInBounds_toArray, List.set_cons_zero, List.set_cons_succ]
            refine takeV 1 (some 70) (.pointer (some ⟨w.heap.size, 28, none⟩)) rfl rfl (by kernel_rfl) (by kernel_rfl) (by kernel_rfl) (fun _ _ _ h => h) (by rfl) (by (intro _w _hSw; (try dsimp only at _hSw); go_simp)) (by assumption) ?_
            simp only [Act.put, List.setIfInBounds_toArray, List.set_cons_zero, List.set_cons_succ]
            refine takeV 2 (some 71) (.int .i64 fr) rfl rfl (by kernel_rfl) (by kernel_rfl) (by kernel_rfl) (fun _ _ _ h => h) (by rfl) (by (intro _w hSw; (have q2 := hSw.x.cell 28); clear hSw; go_simp)) (by assumption) ?_
            simp only [Act.put, List.setIfInBounds_toArray, List.set_cons_zero, List.set_cons_succ]
            refine takeV 4 (some 73) (.pointer (some ⟨w.heap.size, 29, none⟩)) rfl rfl (by kernel_rfl) (by kernel_rfl) (by kernel_rfl) (fun _ _ _ h => h) (by rfl) (by (intro _w _hSw; (try dsimp only at _hSw); go_simp)) (by assumption) ?_
            simp only [Act.put, List.setIfInBounds_toArray, List.set_cons_zero, List.set_cons_succ]
            refine takeV 5 (some 74) (.int .i64 til) rfl rfl (by kernel_rfl) (by kernel_rfl) (by kernel_rfl) (fun _ _ _ h => h) (by rfl) (by (intro _w hSw; (have q2 := hSw.x.cell 29); clear hSw; go_simp)) (by assumption) ?_
            simp only [Act.put, List.setIfInBounds_toArray, List.set_cons_zero, List.set_cons_succ]
            refine callV 3 rfl (by kernel_rfl) (by rfl) (fun K hK => ?_)
            go_simp
            refine (timeOf_any fr _).mono ?_
            rintro e9 w5 ⟨rfl, hb⟩
            refine hK.out _ _ (hHeld.next hb) (fun hHeld1 => ?_)
            clear hK K hHeld
            have HGq := Lib.hid (HGw.out.next hb)
            have HSq := Lib.hid (HSw.out.next hb)
            have HPq := Lib.hid (HPw.out.next hb HPw.out.lt)
            clear hb HGw HSw HPw
            have HGw := HGq
            have HSw := HSq
            have HPw := HPq
            clear HGq HSq HPq
            try simp only [Act.put, List.setIfInBounds_toArray, List.set_cons_zero, List.set_cons_succ]
            refine callV 6 rfl (by kernel_rfl) (by rfl) (fun K hK => ?_)
            go_simp
            refine (timeOf_any til _).mono ?_
            rintro e9 w6 ⟨rfl, hb⟩
            refine hK.out _ _ (hHeld1.next hb) (fun hHeld2 => ?_)
            clear hK K hHeld1
            have HGq := Lib.hid (HGw.out.next hb)
            have HSq := Lib.hid (HSw.out.next hb)
            have HPq := Lib.hid (HPw.out.next hb HPw.out.lt)
            clear hb HGw HSw HPw
            have HGw := HGq
            have HSw := HSq
            have HPw := HPq
            clear HGq HSq HPq
            try simp only [Act.put, List.setIfInBounds_toArray, List.set_cons_zero, List.set_cons_succ]
            refine callV 7 rfl (by kernel_rfl) (by rfl) (fun K hK => ?_)
            go_simp
            refine (pairNode_any 6 fr ⟨#[]⟩ 6 til ⟨#[]⟩ _).mono ?_
            rintro e9 w7 ⟨KK, cc, rfl, hsl, hb⟩
            refine hK.out _ _ (hHeld2.next hb) (fun hHeld3 => ?_)
            clear hK K hHeld2
            obtain ⟨X, hX⟩ : ∃ X, prN (valN 6 fr ⟨#[]⟩) (valN 6 til ⟨#[]⟩) = X := ⟨_, rfl⟩
            rw [hX] at hsl ⊢
            have HSLw : Hid (SlN 1 w7 (Fr (w.heap.size + 2) w7) KK X.kids) := hsl.fr (fun _ _ => rfl) (Nat.le_refl _) (by have := HSw.out.size; omega)
            clear hsl
            have HGq := Lib.hid (HGw.out.next hb)
            have HSq := Lib.hid (HSw.out.next hb)
            have HPq := Lib.hid (HPw.out.next hb HPw.out.lt)
            clear hb HGw HSw HPw
            have HGw := HGq
            have HSw := HSq
            have HPw := HPq
            clear HGq HSq HPq
            try simp only [Act.put, List.setIfInBounds_toArray, List.set_cons_zero, List.set_cons_succ]
            refine callV 8 rfl (by kernel_rfl) (by rfl) (fun K hK => ?_)
            go_simp
            have HLI : Hid (Below w7.heap.size w7 (w7.alloc (.cells #[.int .i64 X.k, .int .i64 X.vk, .int .i64 X.vn, .string X.vs, .string X.s, .slice KK X.kids.length cc, .int .i64 X.ln, .int .i64 X.co] 35))) := (Below.refl _ _).alloc (Nat.le_refl _) _
            refine hK.out _ _ (hHeld3.next HLI.out) (fun hHeld4 => ?_)
            clear hK K hHeld3
            have HGL := Lib.hid (HGw.out.next HLI.out)
            have HKL : Hid (SlN 1 (w7.alloc (.cells #[.int .i64 X.k, .int .i64 X.vk, .int .i64 X.vn, .string X.vs, .string X.s, .slice KK X.kids.length cc, .int .i64 X.ln, .int .i64 X.co] 35)) (Fr (w.heap.size + 2) (w7.alloc (.cells #[.int .i64 X.k, .int .i64 X.vk, .int .i64 X.vn, .string X.vs, .string X.s, .slice KK X.kids.length cc, .int .i64 X.ln, .int .i64 X.co] 35))) KK X.kids) := HSLw.out.fr (fun b hb => HLI.out.block b hb.2.1) HLI.out.size (Nat.le_refl _)
            have HLC := Lib.hid (litN w7 X KK X.kids.length cc)
            have HBS : Hid (w.heap.size + 2 ≤ (w7.alloc (.cells #[.int .i64 X.k, .int .i64 X.vk, .int .i64 X.vn, .string X.vs, .string X.s, .slice KK X.kids.length cc, .int .i64 X.ln, .int .i64 X.co] 35)).heap.size) := by have h1 := HLI.out.size; have h2 := HSw.out.size; show _ ≤ _; omega
            try simp only [Act.put, List.setIfInBounds_toArray, List.set_cons_zero, List.set_cons_succ]
            refine callV 9 rfl (by kernel_rfl) (by rfl) (fun K hK => ?_)
            refine wp_append_own _ _ _ 33 rfl (w.heap.size + 2) 35 i0 (.agg #[.int .i64 0, .int .i64 0, .int .i64 0, .string ⟨#[]⟩, .string ⟨#[]⟩, .slice none 0 0, .int .i64 0, .int .i64 0]) 8 96 Tryd.underlying33 hi hz0 hz1 hz2 rfl (by decide) u4 l.length _ rfl HGL.out.own ⟨w7.heap.size, 0, none⟩ 1 1 (cellsN X (.slice KK X.kids.length cc)) rfl rfl HLC.out (cellsN_one _ _ _ _) (by have := HLN.out; have : 100 ≤ maxLen := (by decide); omega) (by have := HLN.out; omega) HBS.out ?_
            intro v1 w8 hown hgrow _
            have HV8 : Hid (Gat (w.heap.size + 2) w8 v1 (l ++ [(X, KK, cc)])) := HGL.out.snoc (X, KK, cc) HKL.out hown hgrow
            have HB8 : Hid (Below (w.heap.size + 2) w7 w8) := (HLI.out.mono (by have := HSw.out.size; omega)).trans (HGL.out.below hgrow HBS.out)
            have HP8 : Hid (Blk w8 bp (prtC k) 3) := (HPw.out.next HLI.out HPw.out.lt).grown HGL.out.own hgrow (by decide)
            clear hown hgrow
            refine hK.out _ _ (HSw.out.low HB8.out (Nat.le_refl _)) (fun hHeld5 => ?_)
            clear hK K hHeld4
            try simp only [Act.put, List.setIfInBounds_toArray]
            refine takeV 10 (some 4) (v1) rfl rfl (by kernel_rfl) (by kernel_rfl) (by kernel_rfl) (fun _ _ _ h => h) (by rfl) (by (intro _w _hSw; (try dsimp only at _hSw); go_simp)) (by assumption) ?_
            simp only [Act.put]
            refine wpAnyH_done (by kernel_rfl) ?_ _
            go_wp2
            go_roundg g
            case measure => omega
            case rel => exact ⟨j + 1, l ++ [(X, KK, cc)], by go_num, by omega, HV8, by show _ = _; rw [List.map_append, HM.out, HT.out, List.flatMap_append, List.flatMap_singleton, HX.out]; show _ ++ [X] = _; rw [← hX]; rfl, by rw [List.length_append]; simp only [List.length_singleton]; have := HLN.out; show _ ≤ _; omega, HSw.out.low HB8.out (Nat.le_refl _), HP8⟩

end Go.Proofs.YtdjdlfndmeegnaaDoor
