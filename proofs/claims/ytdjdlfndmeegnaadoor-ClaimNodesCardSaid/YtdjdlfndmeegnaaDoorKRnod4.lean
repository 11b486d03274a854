/-
  CONTRACT: the document's node, of form 4.
-/
import Derived.Test.YtdjdlfndmeegnaaDoorKRnodP
namespace Go.Proofs.YtdjdlfndmeegnaaDoor
open Go.RowKit
open Go.Deep

set_option maxRecDepth 100000 in
set_option maxHeartbeats 4000000 in
theorem refNode_4 (e : En) (a : ByteArray) (v old : Tm) (fr til : Int) (sp : Bool) (w : World) :
    Calls Tryd.prog 23 #[.agg #[.int .i64 4, .int .i64 e.k, .int .i64 e.n, .string e.nm, .int .i64 e.vk, .int .i64 e.vn, .string e.vs, .string a, .bool v.ent, .int .i64 v.vk, .int .i64 v.vn, .string v.vs, .int .i64 v.e.k, .int .i64 v.e.n, .string v.e.nm, .int .i64 v.e.vk, .int .i64 v.e.vn, .string v.e.vs, .bool old.ent, .int .i64 old.vk, .int .i64 old.vn, .string old.vs, .int .i64 old.e.k, .int .i64 old.e.n, .string old.e.nm, .int .i64 old.e.vk, .int .i64 old.e.vn, .string old.e.vs, .int .i64 fr, .int .i64 til], .bool sp] w (RnEnd ⟨4, e, a, v, old, fr, til⟩ sp w) := by
  obtain ⟨i0, hi, hz0, hz1, hz2⟩ := info_parts infoN
  obtain ⟨N, hN⟩ : ∃ N, opS 4 = N := ⟨_, rfl⟩
  obtain ⟨w0, hw0⟩ : ∃ w0, (((w.alloc (.cells #[.int .i64 4, .int .i64 e.k, .int .i64 e.n, .string e.nm, .int .i64 e.vk, .int .i64 e.vn, .string e.vs, .string a, .bool v.ent, .int .i64 v.vk, .int .i64 v.vn, .string v.vs, .int .i64 v.e.k, .int .i64 v.e.n, .string v.e.nm, .int .i64 v.e.vk, .int .i64 v.e.vn, .string v.e.vs, .bool old.ent, .int .i64 old.vk, .int .i64 old.vn, .string old.vs, .int .i64 old.e.k, .int .i64 old.e.n, .string old.e.nm, .int .i64 old.e.vk, .int .i64 old.e.vn, .string old.e.vs, .int .i64 fr, .int .i64 til] 29)).alloc (.cells #[.int .i64 0, .int .i64 0, .int .i64 0, .string ⟨#[]⟩, .string ⟨#[]⟩, .slice none 0 0, .int .i64 0, .int .i64 0] 35)).alloc (.cells #[.string ⟨#[]⟩, .string ⟨#[97, 100, 100]⟩, .string ⟨#[99, 117, 116]⟩, .string ⟨#[103, 111, 110, 101]⟩, .string ⟨#[115, 119, 97, 112]⟩] 9)) = w0 := ⟨_, rfl⟩
  have HS0 : Hid (SBs w #[.int .i64 4, .int .i64 e.k, .int .i64 e.n, .string e.nm, .int .i64 e.vk, .int .i64 e.vn, .string e.vs, .string a, .bool v.ent, .int .i64 v.vk, .int .i64 v.vn, .string v.vs, .int .i64 v.e.k, .int .i64 v.e.n, .string v.e.nm, .int .i64 v.e.vk, .int .i64 v.e.vn, .string v.e.vs, .bool old.ent, .int .i64 old.vk, .int .i64 old.vn, .string old.vs, .int .i64 old.e.k, .int .i64 old.e.n, .string old.e.nm, .int .i64 old.e.vk, .int .i64 old.e.vn, .string old.e.vs, .int .i64 fr, .int .i64 til] 29 w0) := by rw [← hw0]; exact SBs.new w _ _
  have HN : Hid (∀ W, SBs w #[.int .i64 4, .int .i64 e.k, .int .i64 e.n, .string e.nm, .int .i64 e.vk, .int .i64 e.vn, .string e.vs, .string a, .bool v.ent, .int .i64 v.vk, .int .i64 v.vn, .string v.vs, .int .i64 v.e.k, .int .i64 v.e.n, .string v.e.nm, .int .i64 v.e.vk, .int .i64 v.e.vn, .string v.e.vs, .bool old.ent, .int .i64 old.vk, .int .i64 old.vn, .string old.vs, .int .i64 old.e.k, .int .i64 old.e.n, .string old.e.nm, .int .i64 old.e.vk, .int .i64 old.e.vn, .string old.e.vs, .int .i64 fr, .int .i64 til] 29 W → W.cell? ⟨w.heap.size + 2, 4, none⟩ = some (.string N)) := fun W hW => by rw [hW.n.cell, ← hN]; rfl
  go_enter Tryd.func23, Tryd.ntmps23
  go_upto_region 2 with (fail)
  try rw [hw0]
  clear hw0
  refine wp_region_held_drew (S := SBs w #[.int .i64 4, .int .i64 e.k, .int .i64 e.n, .string e.nm, .int .i64 e.vk, .int .i64 e.vn, .string e.vs, .string a, .bool v.ent, .int .i64 v.vk, .int .i64 v.vn, .string v.vs, .int .i64 v.e.k, .int .i64 v.e.n, .string v.e.nm, .int .i64 v.e.vk, .int .i64 v.e.vn, .string v.e.vs, .bool old.ent, .int .i64 old.vk, .int .i64 old.vn, .string old.vs, .int .i64 old.e.k, .int .i64 old.e.n, .string old.e.nm, .int .i64 old.e.vk, .int .i64 old.e.vn, .string old.e.vs, .int .i64 fr, .int .i64 til] 29) (by kernel_rfl) (HS0.out.next (Below.refl _ _).drew) (fun hHeld => ?_)
  refine takeV 0 (some 10) (.slice (some ⟨w.heap.size + 2, 0, none⟩) 5 5) rfl rfl (by kernel_rfl) (by kernel_rfl) (by kernel_rfl) (fun _ _ _ h => h) (by rfl) (by (intro _w _hSw; (try dsimp only at _hSw); go_simp)) (by assumption) ?_
  simp only [Act.put, List.setIfInBounds_toArray, List.set_cons_zero, List.set_cons_succ]
  refine takeV 1 (some 11) (.pointer (some ⟨w.heap.size, 0, none⟩)) rfl rfl (by kernel_rfl) (by kernel_rfl) (by kernel_rfl) (fun _ _ _ h => h) (by rfl) (by (intro _w _hSw; (try dsimp only at _hSw); go_simp)) (by assumption) ?_
  simp only [Act.put, List.setIfInBounds_toArray, List.set_cons_zero, List.set_cons_succ]
  refine takeV 2 (some 12) (.int .i64 4) rfl rfl (by kernel_rfl) (by kernel_rfl) (by kernel_rfl) (fun _ _ _ h => h) (by rfl) (by (intro _w hSw; (have q2 := hSw.s.x.cell 0); clear hSw; go_simp)) (by assumption) ?_
  simp only [Act.put, List.setIfInBounds_toArray, List.set_cons_zero, List.set_cons_succ]
  refine takeV 3 (some 13) (.pointer (some ⟨w.heap.size + 2, 4, none⟩)) rfl rfl (by kernel_rfl) (by kernel_rfl) (by kernel_rfl) (fun _ _ _ h => h) (by rfl) (by (intro _w _hSw; (try dsimp only at _hSw); go_simp)) (by assumption) ?_
  simp only [Act.put, List.setIfInBounds_toArray, List.set_cons_zero, List.set_cons_succ]
  refine takeV 4 (some 14) (.string N) rfl rfl (by kernel_rfl) (by kernel_rfl) (by kernel_rfl) (fun _ _ _ h => h) (by rfl) (by (intro _w hSw; (have q2 := HN.out _ hSw); clear hSw; go_simp)) (by assumption) ?_
  simp only [Act.put, List.setIfInBounds_toArray, List.set_cons_zero, List.set_cons_succ]
  refine takeV 6 (some 16) (.pointer (some ⟨w.heap.size, 1, none⟩)) rfl rfl (by kernel_rfl) (by kernel_rfl) (by kernel_rfl) (fun _ _ _ h => h) (by rfl) (by (intro _w _hSw; (try dsimp only at _hSw); go_simp)) (by assumption) ?_
  simp only [Act.put, List.setIfInBounds_toArray, List.set_cons_zero, List.set_cons_succ]
  refine takeV 7 (some 17) (.agg #[.int .i64 e.k, .int .i64 e.n, .string e.nm, .int .i64 e.vk, .int .i64 e.vn, .string e.vs]) rfl rfl (by kernel_rfl) (by kernel_rfl) (by kernel_rfl) (fun _ _ _ h => h) (by rfl) (by (intro _w hSw; (have q1 := hSw.s.x.cell 1; have q2 := hSw.s.x.cell 2; have q3 := hSw.s.x.cell 3; have q4 := hSw.s.x.cell 4; have q5 := hSw.s.x.cell 5; have q6 := hSw.s.x.cell 6); clear hSw; go_simp)) (by assumption) ?_
  simp only [Act.put, List.setIfInBounds_toArray, List.set_cons_zero, List.set_cons_succ]
  refine callV 5 rfl (by kernel_rfl) (by rfl) (fun K hK => ?_)
  go_simp
  refine (refName_any N _).mono ?_
  rintro e9 w1 ⟨rfl, hb1⟩
  refine hK.out _ _ (hHeld.next hb1) (fun hHeld1 => ?_)
  clear hK K hb1 hHeld
  try simp only [Act.put, List.setIfInBounds_toArray, List.set_cons_zero, List.set_cons_succ]
  refine callV 8 rfl (by kernel_rfl) (by rfl) (fun K hK => ?_)
  go_simp
  refine (refWho_any e _).mono ?_
  rintro e9 w2 ⟨KK, cc, rfl, hsl, hb2⟩
  have hz1 := hHeld1.n.lt
  have hz2 := hb2.size
  refine hK.out _ _ (hHeld1.next hb2) (fun hHeld2 => ?_)
  clear hK K hHeld1 hb2
  obtain ⟨X, hX⟩ : ∃ X, entN e = X := ⟨_, rfl⟩
  rw [hX] at hsl ⊢
  have HL : Hid (SlN 1 w2 (Fr (w.heap.size + 3) w2) KK X.kids) := hsl.fr (fun _ _ => rfl) (Nat.le_refl _) (by omega)
  clear hsl
  try simp only [Act.put, List.setIfInBounds_toArray, List.set_cons_zero, List.set_cons_succ]
  refine callV 9 rfl (by kernel_rfl) (by rfl) (fun K hK => ?_)
  go_simp
  have HG3 : Hid (Gat (w.heap.size + 3) (w2.alloc (.cells #[.int .i64 2, .int .i64 0, .int .i64 0, .string ⟨#[]⟩, .string N, .slice none 0 0, .int .i64 0, .int .i64 0, .int .i64 X.k, .int .i64 X.vk, .int .i64 X.vn, .string X.vs, .string X.s, .slice KK X.kids.length cc, .int .i64 X.ln, .int .i64 X.co] 35)) (.slice (some ⟨w2.heap.size, 0, none⟩) 2 2) [(namN N, none, 0), (X, KK, cc)]) := Gat.two w2 (namN N) X KK cc _ rfl rfl (by omega) HL.out
  have hb3 := (Below.refl w2.heap.size w2).alloc (Nat.le_refl _) (.cells #[.int .i64 2, .int .i64 0, .int .i64 0, .string ⟨#[]⟩, .string N, .slice none 0 0, .int .i64 0, .int .i64 0, .int .i64 X.k, .int .i64 X.vk, .int .i64 X.vn, .string X.vs, .string X.s, .slice KK X.kids.length cc, .int .i64 X.ln, .int .i64 X.co] 35)
  have hS3 := hHeld2.next hb3
  obtain ⟨w3, hw3⟩ : ∃ w3, w2.alloc (.cells #[.int .i64 2, .int .i64 0, .int .i64 0, .string ⟨#[]⟩, .string N, .slice none 0 0, .int .i64 0, .int .i64 0, .int .i64 X.k, .int .i64 X.vk, .int .i64 X.vn, .string X.vs, .string X.s, .slice KK X.kids.length cc, .int .i64 X.ln, .int .i64 X.co] 35) = w3 := ⟨_, rfl⟩
  rw [hw3] at HG3 hb3 hS3 ⊢
  clear hw3
  have HS3 : Hid ((w.heap.size + 3) ≤ w3.heap.size) := by have := hb3.size; show _ ≤ _; omega
  refine hK.out _ _ hS3 (fun hHeld3 => ?_)
  clear hK K hHeld2 hb3 hS3 HL hz1 hz2
  have HSw := Lib.hid hHeld3.s
  have HGw := HG3
  clear HG3
  try simp only [Act.put, List.setIfInBounds_toArray, List.set_cons_zero, List.set_cons_succ]
  refine takeV 10 (some 6) (.slice (some ⟨w2.heap.size, 0, none⟩) 2 2) rfl rfl (by kernel_rfl) (by kernel_rfl) (by kernel_rfl) (fun _ _ _ h => h) (by rfl) (by (intro _w _hSw; (try dsimp only at _hSw); go_simp)) (by assumption) ?_
  simp only [Act.put, List.setIfInBounds_toArray, List.set_cons_zero, List.set_cons_succ]
  refine wpAnyH_done (by kernel_rfl) ?_ _
  clear hHeld3
  have c0 : w3.cell? ⟨w.heap.size, 0, none⟩ = some (.int .i64 4) := HSw.out.x.cell 0
  have c7 : w3.cell? ⟨w.heap.size, 7, none⟩ = some (.string a) := HSw.out.x.cell 7
  go_wp2_with fail
  refine (refValue_any 7 0 a _).mono ?_
  rintro e9 w6 ⟨he, hb⟩
  obtain ⟨X1, hX1⟩ : ∃ X, valN 7 0 a = X := ⟨_, rfl⟩
  obtain rfl : e9 = .returned (.agg #[.int .i64 X1.k, .int .i64 X1.vk, .int .i64 X1.vn, .string X1.vs, .string X1.s, .slice none X1.kids.length 0, .int .i64 X1.ln, .int .i64 X1.co]) := by rw [he, ← hX1]; rfl
  have HSLw : Hid (SlN 1 w6 (Fr (w.heap.size + 3) w6) none X1.kids) := by rw [← hX1]; exact SlN.nil _ _ _ _
  clear he
  have HS3' : Hid ((w.heap.size + 3) ≤ w6.heap.size) := Nat.le_trans HS3.out hb.size
  have HGq := Lib.hid (HGw.out.next hb)
  have HSq := Lib.hid (HSw.out.next hb)
  clear hb HGw HSw
  have HGw := HGq
  have HSw := HSq
  clear HGq HSq
  clear HS3 c0 c7
  have HS3 := HS3'
  clear HS3'
  have HHX1 := Lib.hid hX1
  clear hX1
  have HLI : Hid (Below w6.heap.size w6 (w6.alloc (.cells #[.int .i64 X1.k, .int .i64 X1.vk, .int .i64 X1.vn, .string X1.vs, .string X1.s, .slice none X1.kids.length 0, .int .i64 X1.ln, .int .i64 X1.co] 35))) := (Below.refl _ _).alloc (Nat.le_refl _) _
  have HGL := Lib.hid (HGw.out.next HLI.out)
  have HKL : Hid (SlN 1 (w6.alloc (.cells #[.int .i64 X1.k, .int .i64 X1.vk, .int .i64 X1.vn, .string X1.vs, .string X1.s, .slice none X1.kids.length 0, .int .i64 X1.ln, .int .i64 X1.co] 35)) (Fr (w.heap.size + 3) (w6.alloc (.cells #[.int .i64 X1.k, .int .i64 X1.vk, .int .i64 X1.vn, .string X1.vs, .string X1.s, .slice none X1.kids.length 0, .int .i64 X1.ln, .int .i64 X1.co] 35))) none X1.kids) := HSLw.out.fr (fun b hb => HLI.out.block b hb.2.1) HLI.out.size (Nat.le_refl _)
  have HLC := Lib.hid (litN w6 X1 none X1.kids.length 0)
  have HBS : Hid ((w.heap.size + 3) ≤ (w6.alloc (.cells #[.int .i64 X1.k, .int .i64 X1.vk, .int .i64 X1.vn, .string X1.vs, .string X1.s, .slice none X1.kids.length 0, .int .i64 X1.ln, .int .i64 X1.co] 35)).heap.size) := by have h1 := HLI.out.size; have h2 := HS3.out; show _ ≤ _; omega
  go_upto_region 5 with (at_builtin; refine wpList_append_own _ rfl _ _ 33 rfl (w.heap.size + 3) 35 i0 (.agg #[.int .i64 0, .int .i64 0, .int .i64 0, .string ⟨#[]⟩, .string ⟨#[]⟩, .slice none 0 0, .int .i64 0, .int .i64 0]) 8 96 Tryd.underlying33 hi hz0 hz1 hz2 rfl (by decide) _ _ _ rfl HGL.out.own ⟨w6.heap.size, 0, none⟩ 1 1 (cellsN X1 (.slice none X1.kids.length 0)) rfl rfl HLC.out (cellsN_one _ _ _ _) (by have : 100 ≤ maxLen := (by decide); have hq : (([(namN N, none, 0), (X, KK, cc)] : List (Nd × Option Addr × Nat))).length ≤ 6 := (by simp); omega) (by have hq : (([(namN N, none, 0), (X, KK, cc)] : List (Nd × Option Addr × Nat))).length ≤ 6 := (by simp); omega) HBS.out ?_; intro v1 w8 hown hgrow hnil; have HV8 : Hid (Gat (w.heap.size + 3) w8 v1 (([(namN N, none, 0), (X, KK, cc)] : List (Nd × Option Addr × Nat)) ++ [(X1, none, 0)])) := HGL.out.snoc (X1, none, 0) HKL.out hown hgrow; have HB8 : Hid (Below (w.heap.size + 3) w6 w8) := (HLI.out.mono (by have := HS3.out; omega)).trans (HGL.out.below hgrow HBS.out); have HS8 : Hid (SBx w #[.int .i64 4, .int .i64 e.k, .int .i64 e.n, .string e.nm, .int .i64 e.vk, .int .i64 e.vn, .string e.vs, .string a, .bool v.ent, .int .i64 v.vk, .int .i64 v.vn, .string v.vs, .int .i64 v.e.k, .int .i64 v.e.n, .string v.e.nm, .int .i64 v.e.vk, .int .i64 v.e.vn, .string v.e.vs, .bool old.ent, .int .i64 old.vk, .int .i64 old.vn, .string old.vs, .int .i64 old.e.k, .int .i64 old.e.n, .string old.e.nm, .int .i64 old.e.vk, .int .i64 old.e.vn, .string old.e.vs, .int .i64 fr, .int .i64 til] 29 w8) := HSw.out.low HB8.out (by omega); have HZ8 : Hid ((w.heap.size + 3) ≤ w8.heap.size) := Nat.le_trans HS3.out HB8.out.size; clear hown hgrow hnil)
  clear HLI HGL HKL HLC HBS HSLw HB8 HS3
  have HS3 := HZ8
  clear HZ8
  clear HGw HSw
  have HGw := HV8
  have HSw := HS8
  clear HV8 HS8
  have c0 : w8.cell? ⟨w.heap.size, 0, none⟩ = some (.int .i64 4) := HSw.out.x.cell 0
  have c18 : w8.cell? ⟨w.heap.size, 18, none⟩ = some (.bool old.ent) := HSw.out.x.cell 18
  have c19 : w8.cell? ⟨w.heap.size, 19, none⟩ = some (.int .i64 old.vk) := HSw.out.x.cell 19
  have c20 : w8.cell? ⟨w.heap.size, 20, none⟩ = some (.int .i64 old.vn) := HSw.out.x.cell 20
  have c21 : w8.cell? ⟨w.heap.size, 21, none⟩ = some (.string old.vs) := HSw.out.x.cell 21
  have c22 : w8.cell? ⟨w.heap.size, 22, none⟩ = some (.int .i64 old.e.k) := HSw.out.x.cell 22
  have c23 : w8.cell? ⟨w.heap.size, 23, none⟩ = some (.int .i64 old.e.n) := HSw.out.x.cell 23
  have c24 : w8.cell? ⟨w.heap.size, 24, none⟩ = some (.string old.e.nm) := HSw.out.x.cell 24
  have c25 : w8.cell? ⟨w.heap.size, 25, none⟩ = some (.int .i64 old.e.vk) := HSw.out.x.cell 25
  have c26 : w8.cell? ⟨w.heap.size, 26, none⟩ = some (.int .i64 old.e.vn) := HSw.out.x.cell 26
  have c27 : w8.cell? ⟨w.heap.size, 27, none⟩ = some (.string old.e.vs) := HSw.out.x.cell 27
  go_wp2_with fail
  refine (refWhat_any old _).mono ?_
  rintro e9 w6 ⟨KX2, cX2, rfl, hsl, hb⟩
  obtain ⟨X2, hX2⟩ : ∃ X, trmN old = X := ⟨_, rfl⟩
  rw [hX2] at hsl ⊢
  have HSLw : Hid (SlN 1 w6 (Fr (w.heap.size + 3) w6) KX2 X2.kids) := hsl.fr (fun _ _ => rfl) (Nat.le_refl _) HS3.out
  clear hsl
  have HS3' : Hid ((w.heap.size + 3) ≤ w6.heap.size) := Nat.le_trans HS3.out hb.size
  have HGq := Lib.hid (HGw.out.next hb)
  have HSq := Lib.hid (HSw.out.next hb)
  clear hb HGw HSw
  have HGw := HGq
  have HSw := HSq
  clear HGq HSq
  clear HS3 c0 c18 c19 c20 c21 c22 c23 c24 c25 c26 c27
  have HS3 := HS3'
  clear HS3'
  have HHX2 := Lib.hid hX2
  clear hX2
  have HLI : Hid (Below w6.heap.size w6 (w6.alloc (.cells #[.int .i64 X2.k, .int .i64 X2.vk, .int .i64 X2.vn, .string X2.vs, .string X2.s, .slice KX2 X2.kids.length cX2, .int .i64 X2.ln, .int .i64 X2.co] 35))) := (Below.refl _ _).alloc (Nat.le_refl _) _
  have HGL := Lib.hid (HGw.out.next HLI.out)
  have HKL : Hid (SlN 1 (w6.alloc (.cells #[.int .i64 X2.k, .int .i64 X2.vk, .int .i64 X2.vn, .string X2.vs, .string X2.s, .slice KX2 X2.kids.length cX2, .int .i64 X2.ln, .int .i64 X2.co] 35)) (Fr (w.heap.size + 3) (w6.alloc (.cells #[.int .i64 X2.k, .int .i64 X2.vk, .int .i64 X2.vn, .string X2.vs, .string X2.s, .slice KX2 X2.kids.length cX2, .int .i64 X2.ln, .int .i64 X2.co] 35))) KX2 X2.kids) := HSLw.out.fr (fun b hb => HLI.out.block b hb.2.1) HLI.out.size (Nat.le_refl _)
  have HLC := Lib.hid (litN w6 X2 KX2 X2.kids.length cX2)
  have HBS : Hid ((w.heap.size + 3) ≤ (w6.alloc (.cells #[.int .i64 X2.k, .int .i64 X2.vk, .int .i64 X2.vn, .string X2.vs, .string X2.s, .slice KX2 X2.kids.length cX2, .int .i64 X2.ln, .int .i64 X2.co] 35)).heap.size) := by have h1 := HLI.out.size; have h2 := HS3.out; show _ ≤ _; omega
  go_upto_region 7 with (at_builtin; refine wpList_append_own _ rfl _ _ 33 rfl (w.heap.size + 3) 35 i0 (.agg #[.int .i64 0, .int .i64 0, .int .i64 0, .string ⟨#[]⟩, .string ⟨#[]⟩, .slice none 0 0, .int .i64 0, .int .i64 0]) 8 96 Tryd.underlying33 hi hz0 hz1 hz2 rfl (by decide) _ _ _ rfl HGL.out.own ⟨w6.heap.size, 0, none⟩ 1 1 (cellsN X2 (.slice KX2 X2.kids.length cX2)) rfl rfl HLC.out (cellsN_one _ _ _ _) (by have : 100 ≤ maxLen := (by decide); have hq : (([(namN N, none, 0), (X, KK, cc)] : List (Nd × Option Addr × Nat)) ++ ([(X1, none, 0)] : List (Nd × Option Addr × Nat))).length ≤ 6 := (by simp); omega) (by have hq : (([(namN N, none, 0), (X, KK, cc)] : List (Nd × Option Addr × Nat)) ++ ([(X1, none, 0)] : List (Nd × Option Addr × Nat))).length ≤ 6 := (by simp); omega) HBS.out ?_; intro v1 w8 hown hgrow hnil; have HV8 : Hid (Gat (w.heap.size + 3) w8 v1 (([(namN N, none, 0), (X, KK, cc)] : List (Nd × Option Addr × Nat)) ++ ([(X1, none, 0)] : List (Nd × Option Addr × Nat)) ++ [(X2, KX2, cX2)])) := HGL.out.snoc (X2, KX2, cX2) HKL.out hown hgrow; have HB8 : Hid (Below (w.heap.size + 3) w6 w8) := (HLI.out.mono (by have := HS3.out; omega)).trans (HGL.out.below hgrow HBS.out); have HS8 : Hid (SBx w #[.int .i64 4, .int .i64 e.k, .int .i64 e.n, .string e.nm, .int .i64 e.vk, .int .i64 e.vn, .string e.vs, .string a, .bool v.ent, .int .i64 v.vk, .int .i64 v.vn, .string v.vs, .int .i64 v.e.k, .int .i64 v.e.n, .string v.e.nm, .int .i64 v.e.vk, .int .i64 v.e.vn, .string v.e.vs, .bool old.ent, .int .i64 old.vk, .int .i64 old.vn, .string old.vs, .int .i64 old.e.k, .int .i64 old.e.n, .string old.e.nm, .int .i64 old.e.vk, .int .i64 old.e.vn, .string old.e.vs, .int .i64 fr, .int .i64 til] 29 w8) := HSw.out.low HB8.out (by omega); have HZ8 : Hid ((w.heap.size + 3) ≤ w8.heap.size) := Nat.le_trans HS3.out HB8.out.size; clear hown hgrow hnil)
  clear HLI HGL HKL HLC HBS HSLw HB8 HS3
  have HS3 := HZ8
  clear HZ8
  clear HGw HSw
  have HGw := HV8
  have HSw := HS8
  clear HV8 HS8
  have c0 : w8.cell? ⟨w.heap.size, 0, none⟩ = some (.int .i64 4) := HSw.out.x.cell 0
  have c8 : w8.cell? ⟨w.heap.size, 8, none⟩ = some (.bool v.ent) := HSw.out.x.cell 8
  have c9 : w8.cell? ⟨w.heap.size, 9, none⟩ = some (.int .i64 v.vk) := HSw.out.x.cell 9
  have c10 : w8.cell? ⟨w.heap.size, 10, none⟩ = some (.int .i64 v.vn) := HSw.out.x.cell 10
  have c11 : w8.cell? ⟨w.heap.size, 11, none⟩ = some (.string v.vs) := HSw.out.x.cell 11
  have c12 : w8.cell? ⟨w.heap.size, 12, none⟩ = some (.int .i64 v.e.k) := HSw.out.x.cell 12
  have c13 : w8.cell? ⟨w.heap.size, 13, none⟩ = some (.int .i64 v.e.n) := HSw.out.x.cell 13
  have c14 : w8.cell? ⟨w.heap.size, 14, none⟩ = some (.string v.e.nm) := HSw.out.x.cell 14
  have c15 : w8.cell? ⟨w.heap.size, 15, none⟩ = some (.int .i64 v.e.vk) := HSw.out.x.cell 15
  have c16 : w8.cell? ⟨w.heap.size, 16, none⟩ = some (.int .i64 v.e.vn) := HSw.out.x.cell 16
  have c17 : w8.cell? ⟨w.heap.size, 17, none⟩ = some (.string v.e.vs) := HSw.out.x.cell 17
  go_wp2_with fail
  refine (refWhat_any v _).mono ?_
  rintro e9 w6 ⟨KX3, cX3, rfl, hsl, hb⟩
  obtain ⟨X3, hX3⟩ : ∃ X, trmN v = X := ⟨_, rfl⟩
  rw [hX3] at hsl ⊢
  have HSLw : Hid (SlN 1 w6 (Fr (w.heap.size + 3) w6) KX3 X3.kids) := hsl.fr (fun _ _ => rfl) (Nat.le_refl _) HS3.out
  clear hsl
  have HS3' : Hid ((w.heap.size + 3) ≤ w6.heap.size) := Nat.le_trans HS3.out hb.size
  have HGq := Lib.hid (HGw.out.next hb)
  have HSq := Lib.hid (HSw.out.next hb)
  clear hb HGw HSw
  have HGw := HGq
  have HSw := HSq
  clear HGq HSq
  clear HS3 c0 c8 c9 c10 c11 c12 c13 c14 c15 c16 c17
  have HS3 := HS3'
  clear HS3'
  have HHX3 := Lib.hid hX3
  clear hX3
  have HLI : Hid (Below w6.heap.size w6 (w6.alloc (.cells #[.int .i64 X3.k, .int .i64 X3.vk, .int .i64 X3.vn, .string X3.vs, .string X3.s, .slice KX3 X3.kids.length cX3, .int .i64 X3.ln, .int .i64 X3.co] 35))) := (Below.refl _ _).alloc (Nat.le_refl _) _
  have HGL := Lib.hid (HGw.out.next HLI.out)
  have HKL : Hid (SlN 1 (w6.alloc (.cells #[.int .i64 X3.k, .int .i64 X3.vk, .int .i64 X3.vn, .string X3.vs, .string X3.s, .slice KX3 X3.kids.length cX3, .int .i64 X3.ln, .int .i64 X3.co] 35)) (Fr (w.heap.size + 3) (w6.alloc (.cells #[.int .i64 X3.k, .int .i64 X3.vk, .int .i64 X3.vn, .string X3.vs, .string X3.s, .slice KX3 X3.kids.length cX3, .int .i64 X3.ln, .int .i64 X3.co] 35))) KX3 X3.kids) := HSLw.out.fr (fun b hb => HLI.out.block b hb.2.1) HLI.out.size (Nat.le_refl _)
  have HLC := Lib.hid (litN w6 X3 KX3 X3.kids.length cX3)
  have HBS : Hid ((w.heap.size + 3) ≤ (w6.alloc (.cells #[.int .i64 X3.k, .int .i64 X3.vk, .int .i64 X3.vn, .string X3.vs, .string X3.s, .slice KX3 X3.kids.length cX3, .int .i64 X3.ln, .int .i64 X3.co] 35)).heap.size) := by have h1 := HLI.out.size; have h2 := HS3.out; show _ ≤ _; omega
  go_upto_region 9 with (at_builtin; refine wpList_append_own _ rfl _ _ 33 rfl (w.heap.size + 3) 35 i0 (.agg #[.int .i64 0, .int .i64 0, .int .i64 0, .string ⟨#[]⟩, .string ⟨#[]⟩, .slice none 0 0, .int .i64 0, .int .i64 0]) 8 96 Tryd.underlying33 hi hz0 hz1 hz2 rfl (by decide) _ _ _ rfl HGL.out.own ⟨w6.heap.size, 0, none⟩ 1 1 (cellsN X3 (.slice KX3 X3.kids.length cX3)) rfl rfl HLC.out (cellsN_one _ _ _ _) (by have : 100 ≤ maxLen := (by decide); have hq : (([(namN N, none, 0), (X, KK, cc)] : List (Nd × Option Addr × Nat)) ++ ([(X1, none, 0)] : List (Nd × Option Addr × Nat)) ++ ([(X2, KX2, cX2)] : List (Nd × Option Addr × Nat))).length ≤ 6 := (by simp); omega) (by have hq : (([(namN N, none, 0), (X, KK, cc)] : List (Nd × Option Addr × Nat)) ++ ([(X1, none, 0)] : List (Nd × Option Addr × Nat)) ++ ([(X2, KX2, cX2)] : List (Nd × Option Addr × Nat))).length ≤ 6 := (by simp); omega) HBS.out ?_; intro v1 w8 hown hgrow hnil; have HV8 : Hid (Gat (w.heap.size + 3) w8 v1 (([(namN N, none, 0), (X, KK, cc)] : List (Nd × Option Addr × Nat)) ++ ([(X1, none, 0)] : List (Nd × Option Addr × Nat)) ++ ([(X2, KX2, cX2)] : List (Nd × Option Addr × Nat)) ++ [(X3, KX3, cX3)])) := HGL.out.snoc (X3, KX3, cX3) HKL.out hown hgrow; have HB8 : Hid (Below (w.heap.size + 3) w6 w8) := (HLI.out.mono (by have := HS3.out; omega)).trans (HGL.out.below hgrow HBS.out); have HS8 : Hid (SBx w #[.int .i64 4, .int .i64 e.k, .int .i64 e.n, .string e.nm, .int .i64 e.vk, .int .i64 e.vn, .string e.vs, .string a, .bool v.ent, .int .i64 v.vk, .int .i64 v.vn, .string v.vs, .int .i64 v.e.k, .int .i64 v.e.n, .string v.e.nm, .int .i64 v.e.vk, .int .i64 v.e.vn, .string v.e.vs, .bool old.ent, .int .i64 old.vk, .int .i64 old.vn, .string old.vs, .int .i64 old.e.k, .int .i64 old.e.n, .string old.e.nm, .int .i64 old.e.vk, .int .i64 old.e.vn, .string old.e.vs, .int .i64 fr, .int .i64 til] 29 w8) := HSw.out.low HB8.out (by omega); have HZ8 : Hid ((w.heap.size + 3) ≤ w8.heap.size) := Nat.le_trans HS3.out HB8.out.size; clear hown hgrow hnil)
  clear HLI HGL HKL HLC HBS HSLw HB8 HS3
  have HS3 := HZ8
  clear HZ8
  clear HGw HSw
  have HGw := HV8
  have HSw := HS8
  clear HV8 HS8
  cases sp
  ·
    obtain ⟨L, hL⟩ : ∃ L, (([(namN N, none, 0), (X, KK, cc)] : List (Nd × Option Addr × Nat)) ++ ([(X1, none, 0)] : List (Nd × Option Addr × Nat)) ++ ([(X2, KX2, cX2)] : List (Nd × Option Addr × Nat)) ++ ([(X3, KX3, cX3)] : List (Nd × Option Addr × Nat))).length = L := ⟨_, rfl⟩
    obtain ⟨gg, cap, hu, _, _, _⟩ := HGw.out.form
    rw [hL] at hu
    subst hu
    have hsl := (HGw.out.sl (by simp))
    obtain ⟨hln, hsl⟩ := hsl
    have HKL : Hid (((([(namN N, none, 0), (X, KK, cc)] : List (Nd × Option Addr × Nat)) ++ ([(X1, none, 0)] : List (Nd × Option Addr × Nat)) ++ ([(X2, KX2, cX2)] : List (Nd × Option Addr × Nat)) ++ ([(X3, KX3, cX3)] : List (Nd × Option Addr × Nat))).map (·.1)) = kidS ⟨4, e, a, v, old, fr, til⟩ false) := by show _ = _; simp [kidS, ← hX, ← hN, namN, ← HHX1.out, ← HHX2.out, ← HHX3.out]
    rw [HKL.out] at hsl hln
    have HSL := Lib.hid hsl
    have HLN := Lib.hid hln
    clear hsl hln HKL hL
    have c0 : w8.cell? ⟨w.heap.size, 0, none⟩ = some (.int .i64 4) := HSw.out.x.cell 0
    obtain ⟨cs, hcs, hz⟩ := HSw.out.z
    obtain ⟨z0, z1, z2, z3, z4, z5, z6, z7, rfl⟩ := arr8 hcs
    have zc0 : w8.cell? ⟨w.heap.size + 1, 0, none⟩ = some z0 := hz.cell 0
    have zf0 := hz.fz 0
    have zc1 : w8.cell? ⟨w.heap.size + 1, 1, none⟩ = some z1 := hz.cell 1
    have zf1 := hz.fz 1
    have zc2 : w8.cell? ⟨w.heap.size + 1, 2, none⟩ = some z2 := hz.cell 2
    have zf2 := hz.fz 2
    have zc3 : w8.cell? ⟨w.heap.size + 1, 3, none⟩ = some z3 := hz.cell 3
    have zf3 := hz.fz 3
    have zc4 : w8.cell? ⟨w.heap.size + 1, 4, none⟩ = some z4 := hz.cell 4
    have zf4 := hz.fz 4
    have zc5 : w8.cell? ⟨w.heap.size + 1, 5, none⟩ = some z5 := hz.cell 5
    have zf5 := hz.fz 5
    have zc6 : w8.cell? ⟨w.heap.size + 1, 6, none⟩ = some z6 := hz.cell 6
    have zf6 := hz.fz 6
    have zc7 : w8.cell? ⟨w.heap.size + 1, 7, none⟩ = some z7 := hz.cell 7
    have zf7 := hz.fz 7
    have hz9 := hz.set8 (.int .i64 3) (.int .i64 0) (.int .i64 0) (.string ⟨#[]⟩) (.string ⟨#[]⟩) (.slice (some ⟨gg, 0, none⟩) L cap) (.int .i64 0) (.int .i64 0)
    have hb9 := below_set8 (W := w8) (B := w.heap.size + 1) (b := w.heap.size + 1) (Nat.le_refl _) (.int .i64 3) (.int .i64 0) (.int .i64 0) (.string ⟨#[]⟩) (.string ⟨#[]⟩) (.slice (some ⟨gg, 0, none⟩) L cap) (.int .i64 0) (.int .i64 0)
    have hs9 := size_set8 (W := w8) (b := w.heap.size + 1) (.int .i64 3) (.int .i64 0) (.int .i64 0) (.string ⟨#[]⟩) (.string ⟨#[]⟩) (.slice (some ⟨gg, 0, none⟩) L cap) (.int .i64 0) (.int .i64 0)
    have hk9 : ∀ b', w.heap.size + 2 ≤ b' → ((((((((w8.setCell ⟨w.heap.size + 1, 0, none⟩ (.int .i64 3)).setCell ⟨w.heap.size + 1, 1, none⟩ (.int .i64 0)).setCell ⟨w.heap.size + 1, 2, none⟩ (.int .i64 0)).setCell ⟨w.heap.size + 1, 3, none⟩ (.string ⟨#[]⟩)).setCell ⟨w.heap.size + 1, 4, none⟩ (.string ⟨#[]⟩)).setCell ⟨w.heap.size + 1, 5, none⟩ (.slice (some ⟨gg, 0, none⟩) L cap)).setCell ⟨w.heap.size + 1, 6, none⟩ (.int .i64 0)).setCell ⟨w.heap.size + 1, 7, none⟩ (.int .i64 0)).heap[b']? = w8.heap[b']? := fun b' hb' => heap_off8 (by omega) (.int .i64 3) (.int .i64 0) (.int .i64 0) (.string ⟨#[]⟩) (.string ⟨#[]⟩) (.slice (some ⟨gg, 0, none⟩) L cap) (.int .i64 0) (.int .i64 0)
    have HBE := Lib.hid (HSw.out.below.trans (hb9.mono (by omega)))
    have HSE : Hid (SlN 2 ((((((((w8.setCell ⟨w.heap.size + 1, 0, none⟩ (.int .i64 3)).setCell ⟨w.heap.size + 1, 1, none⟩ (.int .i64 0)).setCell ⟨w.heap.size + 1, 2, none⟩ (.int .i64 0)).setCell ⟨w.heap.size + 1, 3, none⟩ (.string ⟨#[]⟩)).setCell ⟨w.heap.size + 1, 4, none⟩ (.string ⟨#[]⟩)).setCell ⟨w.heap.size + 1, 5, none⟩ (.slice (some ⟨gg, 0, none⟩) L cap)).setCell ⟨w.heap.size + 1, 6, none⟩ (.int .i64 0)).setCell ⟨w.heap.size + 1, 7, none⟩ (.int .i64 0)) (fun b => w.heap.size ≤ b ∧ b < ((((((((w8.setCell ⟨w.heap.size + 1, 0, none⟩ (.int .i64 3)).setCell ⟨w.heap.size + 1, 1, none⟩ (.int .i64 0)).setCell ⟨w.heap.size + 1, 2, none⟩ (.int .i64 0)).setCell ⟨w.heap.size + 1, 3, none⟩ (.string ⟨#[]⟩)).setCell ⟨w.heap.size + 1, 4, none⟩ (.string ⟨#[]⟩)).setCell ⟨w.heap.size + 1, 5, none⟩ (.slice (some ⟨gg, 0, none⟩) L cap)).setCell ⟨w.heap.size + 1, 6, none⟩ (.int .i64 0)).setCell ⟨w.heap.size + 1, 7, none⟩ (.int .i64 0)).heap.size) (some ⟨gg, 0, none⟩) (kidS ⟨4, e, a, v, old, fr, til⟩ false)) := (HSL.out.keep (fun b hb => hk9 b (by have := hb.1; omega))).mono (fun b hb => by rw [hs9]; exact ⟨by have := hb.1; omega, hb.2⟩)
    have HZ9 := Lib.hid hz9
    clear hz9 hb9 hs9 hk9
    go_wp2
    refine bodyPost_ret (v := .agg #[.int .i64 3, .int .i64 0, .int .i64 0, .string ⟨#[]⟩, .string ⟨#[]⟩, .slice (some ⟨gg, 0, none⟩) L cap, .int .i64 0, .int .i64 0]) ?_ rfl ⟨some ⟨gg, 0, none⟩, cap, by rw [HLN.out], HSE.out, HBE.out⟩
    exact results_cell_row rfl _ _ (w.heap.size + 1) 35 _ (0, 0) _ rfl HZ9.out Tryd.underlying35 rfl sizeNd
  ·
    -- the span
    have c0 : w8.cell? ⟨w.heap.size, 0, none⟩ = some (.int .i64 4) := HSw.out.x.cell 0
    have c28 : w8.cell? ⟨w.heap.size, 28, none⟩ = some (.int .i64 fr) := HSw.out.x.cell 28
    go_wp2_with fail
    refine (refValue_any 6 fr ⟨#[]⟩ _).mono ?_
    rintro e9 w6 ⟨rfl, hb⟩
    have HS3' : Hid ((w.heap.size + 3) ≤ w6.heap.size) := Nat.le_trans HS3.out hb.size
    have HGq := Lib.hid (HGw.out.next hb)
    have HSq := Lib.hid (HSw.out.next hb)
    clear hb HGw HSw
    have HGw := HGq
    have HSw := HSq
    clear HGq HSq
    clear c0 c28 HS3
    have HF : Hid (Blk (w6.alloc (.cells #[.int .i64 1, .int .i64 6, .int .i64 fr, .string ⟨#[]⟩, .string ⟨#[]⟩, .slice none 0 0, .int .i64 0, .int .i64 0] 35)) w6.heap.size #[.int .i64 1, .int .i64 6, .int .i64 fr, .string ⟨#[]⟩, .string ⟨#[]⟩, .slice none 0 0, .int .i64 0, .int .i64 0] 35) := Blk.new _ _ _
    have hb := (Below.refl w6.heap.size w6).alloc (Nat.le_refl _) (.cells #[.int .i64 1, .int .i64 6, .int .i64 fr, .string ⟨#[]⟩, .string ⟨#[]⟩, .slice none 0 0, .int .i64 0, .int .i64 0] 35)
    have hzz : (w6.alloc (.cells #[.int .i64 1, .int .i64 6, .int .i64 fr, .string ⟨#[]⟩, .string ⟨#[]⟩, .slice none 0 0, .int .i64 0, .int .i64 0] 35)).heap.size = w6.heap.size + 1 := by simp
    have HS3 : Hid ((w.heap.size + 3) ≤ (w6.alloc (.cells #[.int .i64 1, .int .i64 6, .int .i64 fr, .string ⟨#[]⟩, .string ⟨#[]⟩, .slice none 0 0, .int .i64 0, .int .i64 0] 35)).heap.size) := Nat.le_trans HS3'.out hb.size
    have HGq := Lib.hid (HGw.out.next hb)
    have HSq := Lib.hid (HSw.out.next hb)
    clear hb HGw HSw
    have HGw := HGq
    have HSw := HSq
    clear HGq HSq
    clear HS3'
    have c29 : (w6.alloc (.cells #[.int .i64 1, .int .i64 6, .int .i64 fr, .string ⟨#[]⟩, .string ⟨#[]⟩, .slice none 0 0, .int .i64 0, .int .i64 0] 35)).cell? ⟨w.heap.size, 29, none⟩ = some (.int .i64 til) := HSw.out.x.cell 29
    clear hzz
    go_wp2_with fail
    refine (refValue_any 6 til ⟨#[]⟩ _).mono ?_
    rintro e9 w7 ⟨rfl, hb⟩
    have HF7 := Lib.hid (HF.out.next hb HF.out.lt)
    have HS3' : Hid ((w.heap.size + 3) ≤ w7.heap.size) := Nat.le_trans HS3.out hb.size
    have HGq := Lib.hid (HGw.out.next hb)
    have HSq := Lib.hid (HSw.out.next hb)
    clear hb HGw HSw
    have HGw := HGq
    have HSw := HSq
    clear HGq HSq
    clear c29 HS3 HF
    have HT : Hid (Blk (w7.alloc (.cells #[.int .i64 1, .int .i64 6, .int .i64 til, .string ⟨#[]⟩, .string ⟨#[]⟩, .slice none 0 0, .int .i64 0, .int .i64 0] 35)) w7.heap.size #[.int .i64 1, .int .i64 6, .int .i64 til, .string ⟨#[]⟩, .string ⟨#[]⟩, .slice none 0 0, .int .i64 0, .int .i64 0] 35) := Blk.new _ _ _
    have hb := (Below.refl w7.heap.size w7).alloc (Nat.le_refl _) (.cells #[.int .i64 1, .int .i64 6, .int .i64 til, .string ⟨#[]⟩, .string ⟨#[]⟩, .slice none 0 0, .int .i64 0, .int .i64 0] 35)
    have HF := Lib.hid (HF7.out.next hb HF7.out.lt)
    have HS3 : Hid ((w.heap.size + 3) ≤ (w7.alloc (.cells #[.int .i64 1, .int .i64 6, .int .i64 til, .string ⟨#[]⟩, .string ⟨#[]⟩, .slice none 0 0, .int .i64 0, .int .i64 0] 35)).heap.size) := Nat.le_trans HS3'.out hb.size
    have HGq := Lib.hid (HGw.out.next hb)
    have HSq := Lib.hid (HSw.out.next hb)
    clear hb HGw HSw
    have HGw := HGq
    have HSw := HSq
    clear HGq HSq
    clear HS3' HF7
    go_upto_region 12 with (fail)
    obtain ⟨w9, hw9⟩ : ∃ w9, w7.alloc (.cells #[.int .i64 1, .int .i64 6, .int .i64 til, .string ⟨#[]⟩, .string ⟨#[]⟩, .slice none 0 0, .int .i64 0, .int .i64 0] 35) = w9 := ⟨_, rfl⟩
    rw [hw9] at HT HF HGw HSw HS3 ⊢
    clear hw9
    have f0 : w9.cell? ⟨w6.heap.size, 0, none⟩ = some (.int .i64 1) := HF.out.cell 0
    have t0 : w9.cell? ⟨w7.heap.size, 0, none⟩ = some (.int .i64 1) := HT.out.cell 0
    have f1 : w9.cell? ⟨w6.heap.size, 1, none⟩ = some (.int .i64 6) := HF.out.cell 1
    have t1 : w9.cell? ⟨w7.heap.size, 1, none⟩ = some (.int .i64 6) := HT.out.cell 1
    have f2 : w9.cell? ⟨w6.heap.size, 2, none⟩ = some (.int .i64 fr) := HF.out.cell 2
    have t2 : w9.cell? ⟨w7.heap.size, 2, none⟩ = some (.int .i64 til) := HT.out.cell 2
    have f3 : w9.cell? ⟨w6.heap.size, 3, none⟩ = some (.string ⟨#[]⟩) := HF.out.cell 3
    have t3 : w9.cell? ⟨w7.heap.size, 3, none⟩ = some (.string ⟨#[]⟩) := HT.out.cell 3
    have f4 : w9.cell? ⟨w6.heap.size, 4, none⟩ = some (.string ⟨#[]⟩) := HF.out.cell 4
    have t4 : w9.cell? ⟨w7.heap.size, 4, none⟩ = some (.string ⟨#[]⟩) := HT.out.cell 4
    have f5 : w9.cell? ⟨w6.heap.size, 5, none⟩ = some (.slice none 0 0) := HF.out.cell 5
    have t5 : w9.cell? ⟨w7.heap.size, 5, none⟩ = some (.slice none 0 0) := HT.out.cell 5
    have f6 : w9.cell? ⟨w6.heap.size, 6, none⟩ = some (.int .i64 0) := HF.out.cell 6
    have t6 : w9.cell? ⟨w7.heap.size, 6, none⟩ = some (.int .i64 0) := HT.out.cell 6
    have f7 : w9.cell? ⟨w6.heap.size, 7, none⟩ = some (.int .i64 0) := HF.out.cell 7
    have t7 : w9.cell? ⟨w7.heap.size, 7, none⟩ = some (.int .i64 0) := HT.out.cell 7
    have HQ : Hid (Blk (w9.alloc (.cells #[.int .i64 1, .int .i64 6, .int .i64 fr, .string ⟨#[]⟩, .string ⟨#[]⟩, .slice none 0 0, .int .i64 0, .int .i64 0, .int .i64 1, .int .i64 6, .int .i64 til, .string ⟨#[]⟩, .string ⟨#[]⟩, .slice none 0 0, .int .i64 0, .int .i64 0] 35)) w9.heap.size #[.int .i64 1, .int .i64 6, .int .i64 fr, .string ⟨#[]⟩, .string ⟨#[]⟩, .slice none 0 0, .int .i64 0, .int .i64 0, .int .i64 1, .int .i64 6, .int .i64 til, .string ⟨#[]⟩, .string ⟨#[]⟩, .slice none 0 0, .int .i64 0, .int .i64 0] 35) := Blk.new _ _ _
    have hb := (Below.refl w9.heap.size w9).alloc (Nat.le_refl _) (.cells #[.int .i64 1, .int .i64 6, .int .i64 fr, .string ⟨#[]⟩, .string ⟨#[]⟩, .slice none 0 0, .int .i64 0, .int .i64 0, .int .i64 1, .int .i64 6, .int .i64 til, .string ⟨#[]⟩, .string ⟨#[]⟩, .slice none 0 0, .int .i64 0, .int .i64 0] 35)
    obtain ⟨wq, hwq⟩ : ∃ wq, w9.alloc (.cells #[.int .i64 1, .int .i64 6, .int .i64 fr, .string ⟨#[]⟩, .string ⟨#[]⟩, .slice none 0 0, .int .i64 0, .int .i64 0, .int .i64 1, .int .i64 6, .int .i64 til, .string ⟨#[]⟩, .string ⟨#[]⟩, .slice none 0 0, .int .i64 0, .int .i64 0] 35) = wq := ⟨_, rfl⟩
    rw [hwq] at HQ hb
    have hgt := HQ.out.lt
    have HS3' : Hid ((w.heap.size + 3) ≤ wq.heap.size) := Nat.le_trans HS3.out hb.size
    have HSLw : Hid (SlN 1 wq (Fr (w.heap.size + 3) wq) (some ⟨w9.heap.size, 0, none⟩) (prN (valN 6 fr eB) (valN 6 til eB)).kids) := prN_cells HQ.out ⟨HS3.out, HQ.out.lt, HQ.out.cell 0⟩
    have HGq := Lib.hid (HGw.out.next hb)
    have HSq := Lib.hid (HSw.out.next hb)
    clear hb HGw HSw
    have HGw := HGq
    have HSw := HSq
    clear HGq HSq
    clear HS3 hgt HQ HF HT
    have HS3 := HS3'
    clear HS3'
    have HLI : Hid (Below wq.heap.size wq (wq.alloc (.cells #[.int .i64 4, .int .i64 0, .int .i64 0, .string ⟨#[]⟩, .string ⟨#[]⟩, .slice (some ⟨w9.heap.size, 0, none⟩) 2 2, .int .i64 0, .int .i64 0] 35))) := (Below.refl _ _).alloc (Nat.le_refl _) _
    have HGL := Lib.hid (HGw.out.next HLI.out)
    have HKL : Hid (SlN 1 (wq.alloc (.cells #[.int .i64 4, .int .i64 0, .int .i64 0, .string ⟨#[]⟩, .string ⟨#[]⟩, .slice (some ⟨w9.heap.size, 0, none⟩) 2 2, .int .i64 0, .int .i64 0] 35)) (Fr (w.heap.size + 3) (wq.alloc (.cells #[.int .i64 4, .int .i64 0, .int .i64 0, .string ⟨#[]⟩, .string ⟨#[]⟩, .slice (some ⟨w9.heap.size, 0, none⟩) 2 2, .int .i64 0, .int .i64 0] 35))) (some ⟨w9.heap.size, 0, none⟩) (prN (valN 6 fr eB) (valN 6 til eB)).kids) := HSLw.out.fr (fun b hb => HLI.out.block b hb.2.1) HLI.out.size (Nat.le_refl _)
    have HLC := Lib.hid (litN wq (prN (valN 6 fr eB) (valN 6 til eB)) (some ⟨w9.heap.size, 0, none⟩) (prN (valN 6 fr eB) (valN 6 til eB)).kids.length 2)
    have HBS : Hid ((w.heap.size + 3) ≤ (wq.alloc (.cells #[.int .i64 4, .int .i64 0, .int .i64 0, .string ⟨#[]⟩, .string ⟨#[]⟩, .slice (some ⟨w9.heap.size, 0, none⟩) 2 2, .int .i64 0, .int .i64 0] 35)).heap.size) := by have h1 := HLI.out.size; have h2 := HS3.out; show _ ≤ _; omega
    go_upto_region 13 with (at_builtin; refine wpList_append_own _ rfl _ _ 33 rfl (w.heap.size + 3) 35 i0 (.agg #[.int .i64 0, .int .i64 0, .int .i64 0, .string ⟨#[]⟩, .string ⟨#[]⟩, .slice none 0 0, .int .i64 0, .int .i64 0]) 8 96 Tryd.underlying33 hi hz0 hz1 hz2 rfl (by decide) _ _ _ rfl HGL.out.own ⟨wq.heap.size, 0, none⟩ 1 1 (cellsN (prN (valN 6 fr eB) (valN 6 til eB)) (.slice (some ⟨w9.heap.size, 0, none⟩) (prN (valN 6 fr eB) (valN 6 til eB)).kids.length 2)) rfl rfl HLC.out (cellsN_one _ _ _ _) (by have : 100 ≤ maxLen := (by decide); have hq : (([(namN N, none, 0), (X, KK, cc)] : List (Nd × Option Addr × Nat)) ++ ([(X1, none, 0)] : List (Nd × Option Addr × Nat)) ++ ([(X2, KX2, cX2)] : List (Nd × Option Addr × Nat)) ++ ([(X3, KX3, cX3)] : List (Nd × Option Addr × Nat))).length ≤ 6 := (by simp); omega) (by have hq : (([(namN N, none, 0), (X, KK, cc)] : List (Nd × Option Addr × Nat)) ++ ([(X1, none, 0)] : List (Nd × Option Addr × Nat)) ++ ([(X2, KX2, cX2)] : List (Nd × Option Addr × Nat)) ++ ([(X3, KX3, cX3)] : List (Nd × Option Addr × Nat))).length ≤ 6 := (by simp); omega) HBS.out ?_; intro v1 w8 hown hgrow hnil; have HV8 : Hid (Gat (w.heap.size + 3) w8 v1 (([(namN N, none, 0), (X, KK, cc)] : List (Nd × Option Addr × Nat)) ++ ([(X1, none, 0)] : List (Nd × Option Addr × Nat)) ++ ([(X2, KX2, cX2)] : List (Nd × Option Addr × Nat)) ++ ([(X3, KX3, cX3)] : List (Nd × Option Addr × Nat)) ++ [((prN (valN 6 fr eB) (valN 6 til eB)), (some ⟨w9.heap.size, 0, none⟩), 2)])) := HGL.out.snoc ((prN (valN 6 fr eB) (valN 6 til eB)), (some ⟨w9.heap.size, 0, none⟩), 2) HKL.out hown hgrow; have HB8 : Hid (Below (w.heap.size + 3) wq w8) := (HLI.out.mono (by have := HS3.out; omega)).trans (HGL.out.below hgrow HBS.out); have HS8 : Hid (SBx w #[.int .i64 4, .int .i64 e.k, .int .i64 e.n, .string e.nm, .int .i64 e.vk, .int .i64 e.vn, .string e.vs, .string a, .bool v.ent, .int .i64 v.vk, .int .i64 v.vn, .string v.vs, .int .i64 v.e.k, .int .i64 v.e.n, .string v.e.nm, .int .i64 v.e.vk, .int .i64 v.e.vn, .string v.e.vs, .bool old.ent, .int .i64 old.vk, .int .i64 old.vn, .string old.vs, .int .i64 old.e.k, .int .i64 old.e.n, .string old.e.nm, .int .i64 old.e.vk, .int .i64 old.e.vn, .string old.e.vs, .int .i64 fr, .int .i64 til] 29 w8) := HSw.out.low HB8.out (by omega); have HZ8 : Hid ((w.heap.size + 3) ≤ w8.heap.size) := Nat.le_trans HS3.out HB8.out.size; clear hown hgrow hnil)
    clear HLI HGL HKL HLC HBS HSLw HB8 HS3
    have HS3 := HZ8
    clear HZ8
    clear HGw HSw
    have HGw := HV8
    have HSw := HS8
    clear HV8 HS8
    obtain ⟨L, hL⟩ : ∃ L, (([(namN N, none, 0), (X, KK, cc)] : List (Nd × Option Addr × Nat)) ++ ([(X1, none, 0)] : List (Nd × Option Addr × Nat)) ++ ([(X2, KX2, cX2)] : List (Nd × Option Addr × Nat)) ++ ([(X3, KX3, cX3)] : List (Nd × Option Addr × Nat)) ++ ([((prN (valN 6 fr eB) (valN 6 til eB)), (some ⟨w9.heap.size, 0, none⟩), 2)] : List (Nd × Option Addr × Nat))).length = L := ⟨_, rfl⟩
    obtain ⟨gg, cap, hu, _, _, _⟩ := HGw.out.form
    rw [hL] at hu
    subst hu
    have hsl := (HGw.out.sl (by simp))
    obtain ⟨hln, hsl⟩ := hsl
    have HKL : Hid (((([(namN N, none, 0), (X, KK, cc)] : List (Nd × Option Addr × Nat)) ++ ([(X1, none, 0)] : List (Nd × Option Addr × Nat)) ++ ([(X2, KX2, cX2)] : List (Nd × Option Addr × Nat)) ++ ([(X3, KX3, cX3)] : List (Nd × Option Addr × Nat)) ++ ([((prN (valN 6 fr eB) (valN 6 til eB)), (some ⟨w9.heap.size, 0, none⟩), 2)] : List (Nd × Option Addr × Nat))).map (·.1)) = kidS ⟨4, e, a, v, old, fr, til⟩ true) := by show _ = _; simp [kidS, ← hX, ← hN, namN, ← HHX1.out, ← HHX2.out, ← HHX3.out]
    rw [HKL.out] at hsl hln
    have HSL := Lib.hid hsl
    have HLN := Lib.hid hln
    clear hsl hln HKL hL
    have c0 : w8.cell? ⟨w.heap.size, 0, none⟩ = some (.int .i64 4) := HSw.out.x.cell 0
    obtain ⟨cs, hcs, hz⟩ := HSw.out.z
    obtain ⟨z0, z1, z2, z3, z4, z5, z6, z7, rfl⟩ := arr8 hcs
    have zc0 : w8.cell? ⟨w.heap.size + 1, 0, none⟩ = some z0 := hz.cell 0
    have zf0 := hz.fz 0
    have zc1 : w8.cell? ⟨w.heap.size + 1, 1, none⟩ = some z1 := hz.cell 1
    have zf1 := hz.fz 1
    have zc2 : w8.cell? ⟨w.heap.size + 1, 2, none⟩ = some z2 := hz.cell 2
    have zf2 := hz.fz 2
    have zc3 : w8.cell? ⟨w.heap.size + 1, 3, none⟩ = some z3 := hz.cell 3
    have zf3 := hz.fz 3
    have zc4 : w8.cell? ⟨w.heap.size + 1, 4, none⟩ = some z4 := hz.cell 4
    have zf4 := hz.fz 4
    have zc5 : w8.cell? ⟨w.heap.size + 1, 5, none⟩ = some z5 := hz.cell 5
    have zf5 := hz.fz 5
    have zc6 : w8.cell? ⟨w.heap.size + 1, 6, none⟩ = some z6 := hz.cell 6
    have zf6 := hz.fz 6
    have zc7 : w8.cell? ⟨w.heap.size + 1, 7, none⟩ = some z7 := hz.cell 7
    have zf7 := hz.fz 7
    have hz9 := hz.set8 (.int .i64 3) (.int .i64 0) (.int .i64 0) (.string ⟨#[]⟩) (.string ⟨#[]⟩) (.slice (some ⟨gg, 0, none⟩) L cap) (.int .i64 0) (.int .i64 0)
    have hb9 := below_set8 (W := w8) (B := w.heap.size + 1) (b := w.heap.size + 1) (Nat.le_refl _) (.int .i64 3) (.int .i64 0) (.int .i64 0) (.string ⟨#[]⟩) (.string ⟨#[]⟩) (.slice (some ⟨gg, 0, none⟩) L cap) (.int .i64 0) (.int .i64 0)
    have hs9 := size_set8 (W := w8) (b := w.heap.size + 1) (.int .i64 3) (.int .i64 0) (.int .i64 0) (.string ⟨#[]⟩) (.string ⟨#[]⟩) (.slice (some ⟨gg, 0, none⟩) L cap) (.int .i64 0) (.int .i64 0)
    have hk9 : ∀ b', w.heap.size + 2 ≤ b' → ((((((((w8.setCell ⟨w.heap.size + 1, 0, none⟩ (.int .i64 3)).setCell ⟨w.heap.size + 1, 1, none⟩ (.int .i64 0)).setCell ⟨w.heap.size + 1, 2, none⟩ (.int .i64 0)).setCell ⟨w.heap.size + 1, 3, none⟩ (.string ⟨#[]⟩)).setCell ⟨w.heap.size + 1, 4, none⟩ (.string ⟨#[]⟩)).setCell ⟨w.heap.size + 1, 5, none⟩ (.slice (some ⟨gg, 0, none⟩) L cap)).setCell ⟨w.heap.size + 1, 6, none⟩ (.int .i64 0)).setCell ⟨w.heap.size + 1, 7, none⟩ (.int .i64 0)).heap[b']? = w8.heap[b']? := fun b' hb' => heap_off8 (by omega) (.int .i64 3) (.int .i64 0) (.int .i64 0) (.string ⟨#[]⟩) (.string ⟨#[]⟩) (.slice (some ⟨gg, 0, none⟩) L cap) (.int .i64 0) (.int .i64 0)
    have HBE := Lib.hid (HSw.out.below.trans (hb9.mono (by omega)))
    have HSE : Hid (SlN 2 ((((((((w8.setCell ⟨w.heap.size + 1, 0, none⟩ (.int .i64 3)).setCell ⟨w.heap.size + 1, 1, none⟩ (.int .i64 0)).setCell ⟨w.heap.size + 1, 2, none⟩ (.int .i64 0)).setCell ⟨w.heap.size + 1, 3, none⟩ (.string ⟨#[]⟩)).setCell ⟨w.heap.size + 1, 4, none⟩ (.string ⟨#[]⟩)).setCell ⟨w.heap.size + 1, 5, none⟩ (.slice (some ⟨gg, 0, none⟩) L cap)).setCell ⟨w.heap.size + 1, 6, none⟩ (.int .i64 0)).setCell ⟨w.heap.size + 1, 7, none⟩ (.int .i64 0)) (fun b => w.heap.size ≤ b ∧ b < ((((((((w8.setCell ⟨w.heap.size + 1, 0, none⟩ (.int .i64 3)).setCell ⟨w.heap.size + 1, 1, none⟩ (.int .i64 0)).setCell ⟨w.heap.size + 1, 2, none⟩ (.int .i64 0)).setCell ⟨w.heap.size + 1, 3, none⟩ (.string ⟨#[]⟩)).setCell ⟨w.heap.size + 1, 4, none⟩ (.string ⟨#[]⟩)).setCell ⟨w.heap.size + 1, 5, none⟩ (.slice (some ⟨gg, 0, none⟩) L cap)).setCell ⟨w.heap.size + 1, 6, none⟩ (.int .i64 0)).setCell ⟨w.heap.size + 1, 7, none⟩ (.int .i64 0)).heap.size) (some ⟨gg, 0, none⟩) (kidS ⟨4, e, a, v, old, fr, til⟩ true)) := (HSL.out.keep (fun b hb => hk9 b (by have := hb.1; omega))).mono (fun b hb => by rw [hs9]; exact ⟨by have := hb.1; omega, hb.2⟩)
    have HZ9 := Lib.hid hz9
    clear hz9 hb9 hs9 hk9
    go_wp2
    refine bodyPost_ret (v := .agg #[.int .i64 3, .int .i64 0, .int .i64 0, .string ⟨#[]⟩, .string ⟨#[]⟩, .slice (some ⟨gg, 0, none⟩) L cap, .int .i64 0, .int .i64 0]) ?_ rfl ⟨some ⟨gg, 0, none⟩, cap, by rw [HLN.out], HSE.out, HBE.out⟩
    exact results_cell_row rfl _ _ (w.heap.size + 1) 35 _ (0, 0) _ rfl HZ9.out Tryd.underlying35 rfl sizeNd

end Go.Proofs.YtdjdlfndmeegnaaDoor
