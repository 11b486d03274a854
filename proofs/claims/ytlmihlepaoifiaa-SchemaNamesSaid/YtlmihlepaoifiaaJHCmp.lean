import Derived.Test.YtlmihlepaoifiaaJFSame
import Derived.Test.YtlmihlepaoifiaaJHCont
import Derived.Test.YtlmihlepaoifiaaJRegion
import Derived.BigQuiet
import Derived.Deep.LoopGhost
/-
  PLAIN FACTS: what two lists of facts tell of each triple; the changes from one to the other.
-/
namespace Go.Proofs.Ytlmihlepaoifiaa
open VOrd (IsOrd lexO lex_is ordI_is ordT_is ordT)

/-- all spans of facts -/
def sumS (l : List FactP) : Nat := (l.map fun f => f.l.length).sum
theorem sumS_mem {l : List FactP} {f : FactP} (h : f ∈ l) : f.l.length ≤ sumS l := by
  obtain ⟨a, b, rfl⟩ := List.append_of_mem h
  unfold sumS
  simp
  omega
end Go.Proofs.Ytlmihlepaoifiaa

/-
  STRETCHES: a fact at one of its spans; a row of them.
-/
namespace Go.Proofs.Ytlmihlepaoifiaa
open Go.RowKit Go.Maps Go.Shelf

structure StrP where
  j : Nat
  f : FactP
  s : Sp
instance : Inhabited StrP := ⟨⟨0, ⟨0, 0, 0, 0, ⟨#[]⟩, []⟩, (0, 0)⟩⟩
def strAt (j : Nat) (f : FactP) : List StrP := f.l.map fun s => ⟨j, f, s⟩
/-- the stretches of the facts that are wanted -/
def strF (p : FactP → Bool) : Nat → List FactP → List StrP
  | _, [] => []
  | j, f :: r => (if p f then strAt j f else []) ++ strF p (j + 1) r
theorem strF_append (p : FactP → Bool) : ∀ (a b : List FactP) (j : Nat), strF p j (a ++ b) = strF p j a ++ strF p (j + a.length) b
  | [], b, j => by simp [strF]
  | f :: r, b, j => by
    show (if p f then strAt j f else []) ++ strF p (j + 1) (r ++ b) = (if p f then strAt j f else []) ++ strF p (j + 1) r ++ strF p (j + (r.length + 1)) b
    rw [strF_append p r b (j + 1), List.append_assoc, show j + 1 + r.length = j + (r.length + 1) by omega]
theorem strF_take (p : FactP → Bool) {fs : List FactP} {j : Nat} (h : j < fs.length) : strF p 0 (fs.take (j + 1)) = strF p 0 (fs.take j) ++ (if p fs[j] then strAt j fs[j] else []) := by
  rw [show fs.take (j + 1) = fs.take j ++ [fs[j]] by rw [List.take_add_one, List.getElem?_eq_getElem h]; rfl, strF_append]
  congr 1
  rw [List.length_take, Nat.min_eq_left (by omega), Nat.zero_add]
  simp [strF]
theorem strF_len (p : FactP → Bool) : ∀ (fs : List FactP) (j : Nat), (strF p j fs).length ≤ sumS fs
  | [], _ => Nat.zero_le _
  | f :: r, j => by
    show ((if p f then strAt j f else []) ++ strF p (j + 1) r).length ≤ sumS (f :: r)
    have h1 := strF_len p r (j + 1)
    have h2 : (if p f then strAt j f else []).length ≤ f.l.length := by
      split
      · simp [strAt]
      · exact Nat.zero_le _
    rw [List.length_append]
    unfold sumS at h1 ⊢
    simp only [List.map_cons, List.sum_cons]
    omega
theorem sumS_append (a b : List FactP) : sumS (a ++ b) = sumS a + sumS b := by unfold sumS; rw [List.map_append, List.sum_append]
theorem sumS_pre (fs : List FactP) (j : Nat) : sumS (fs.take j) ≤ sumS fs := by
  conv => rhs; rw [← List.take_append_drop j fs, sumS_append]
  omega
theorem sumS_snoc {fs : List FactP} {j : Nat} (h : j < fs.length) : sumS (fs.take (j + 1)) = sumS (fs.take j) + fs[j].l.length := by
  rw [show fs.take (j + 1) = fs.take j ++ [fs[j]] by rw [List.take_add_one, List.getElem?_eq_getElem h]; rfl, sumS_append]
  simp [sumS]
/-- a stretch's cells: the fact's address, the span -/
def cellsR (b o : Nat) (x : StrP) : List Value := [.pointer (some ⟨b, o + x.j * 6, none⟩), .int .i64 x.s.1, .int .i64 x.s.2]
theorem cellsR_one (b o : Nat) (x : StrP) : ∀ u ∈ cellsR b o x, u.oneCell' = true := by
  intro u hu
  simp [cellsR] at hu
  rcases hu with rfl | rfl | rfl <;> rfl
def OwnR (W : World) (B b o : Nat) (v : Value) (l : List StrP) : Prop := W.ownsRow B 82 3 v l.length (l.flatMap (cellsR b o))
theorem infoR : (Try.prog.info? 82).map (fun i => (i.zero, i.size, i.bytes)) = some (some (.agg #[.pointer none, .int .i64 0, .int .i64 0]), 3, 24) := by kernel_rfl
theorem OwnR.next {W W' : World} {B b o : Nat} {v : Value} {l : List StrP} (h : OwnR W B b o v l) (hb : Below W.heap.size W W') : OwnR W' B b o v l := by
  refine ⟨h.1, ?_⟩
  rcases h.2 with h | ⟨g, cap, cur, h1, h2, h3, h4⟩
  · exact .inl h
  · exact .inr ⟨g, cap, cur, h1, h2, (hb.block g (Array.getElem?_eq_some_iff.1 h3).1).trans h3, h4⟩
theorem ownR_nil (W : World) (B b o : Nat) : OwnR W B b o (.slice none 0 0) [] := World.ownsRow_nil _ _ _ _
theorem litR (w3 : World) (b o : Nat) (x : StrP) (j : Nat) (u : Value) (hu : (cellsR b o x)[j]? = some u) :
    (w3.alloc (.cells #[.pointer (some ⟨b, o + x.j * 6, none⟩), .int .i64 x.s.1, .int .i64 x.s.2] 82)).cell? ((⟨w3.heap.size, 0, none⟩ : Addr).add j) = some u := by
  have e : (⟨w3.heap.size, 0, none⟩ : Addr).add j = ⟨w3.heap.size, j, none⟩ := by unfold Addr.add; split <;> simp_all
  rw [e, World.cell?_alloc_new]
  simpa [cellsR] using hu
/-- a span in a box -/
def SpBx (W : World) (g : Nat) (s : Sp) : Prop := W.heap[g]? = some (.cells #[.int .i64 s.1, .int .i64 s.2] 34 (0, 0))
theorem SpBx.lt {W : World} {g : Nat} {s : Sp} (h : SpBx W g s) : g < W.heap.size := (Array.getElem?_eq_some_iff.1 h).1
theorem SpBx.next {W W' : World} {g : Nat} {s : Sp} (h : SpBx W g s) (hb : Below W.heap.size W W') : SpBx W' g s := (hb.block g h.lt).trans h
theorem SpBx.c0 {W : World} {g : Nat} {s : Sp} (h : SpBx W g s) : W.cell? ⟨g, 0, none⟩ = some (.int .i64 s.1) := by unfold SpBx at h; simp [World.cell?, h]
theorem SpBx.c1 {W : World} {g : Nat} {s : Sp} (h : SpBx W g s) : W.cell? ⟨g, 1, none⟩ = some (.int .i64 s.2) := by unfold SpBx at h; simp [World.cell?, h]
theorem spBx_new (W : World) (s : Sp) : SpBx (W.alloc (.cells #[.int .i64 s.1, .int .i64 s.2] 34)) W.heap.size s := heap_alloc_new W _
theorem SpBx.off {W W' : World} {g : Nat} {s : Sp} {row : Option Nat} (h : SpBx W g s) (hg : W.grownBy W' row) (hr : some g ≠ row) : SpBx W' g s := (hg.block g h.lt hr).trans h
theorem SpBx.not_row {W : World} {g B b o : Nat} {s : Sp} {v : Value} {l : List StrP} (h : SpBx W g s) (ho : OwnR W B b o v l) : some g ≠ v.ownBlock := by
  rcases ho.2 with ⟨rfl, _⟩ | ⟨g', cap, cur, rfl, _, hgb, _⟩
  · simp [Value.ownBlock]
  · intro e
    have : g = g' := by simpa [Value.ownBlock] using e
    subst this
    rw [show W.heap[g]? = _ from h] at hgb
    injection hgb with hgb
    injection hgb with _ h2 _
    exact absurd h2 (by decide)
theorem OwnR.snoc {W : World} {B b o : Nat} {v : Value} {l : List StrP} {x : StrP} (h : W.ownsRow B 82 3 v (l.length + 1) (l.flatMap (cellsR b o) ++ cellsR b o x)) : OwnR W B b o v (l ++ [x]) := by
  show World.ownsRow _ _ _ _ _ _ _
  rw [List.length_append, List.flatMap_append]
  simpa using h
end Go.Proofs.Ytlmihlepaoifiaa

/-
  CONTRACT: stretches, by the two closures that want facts.
-/
namespace Go.Proofs.Ytlmihlepaoifiaa
open Go.RowKit Go.Maps Go.Shelf

set_option maxRecDepth 100000 in
set_option maxHeartbeats 8000000 in
theorem strT_any (T : List Att) (bB bM : Nat) (b o c0 : Nat) (fs : List FactP) (w : World) (hs : FVa w (.slice (some ⟨b, o, none⟩) fs.length c0) fs) (hl : fs.length ≤ 10000) (hS : sumS fs ≤ 100000) (hwf : ∀ f ∈ fs, WfF f)
    (hmp : Boxed w bB 62 (.map (some bM))) (hm : MapAt w bM T) :
    Calls Try.prog 31 #[.slice (some ⟨b, o, none⟩) fs.length c0, .func (.func 29) #[] #[.pointer (some ⟨bB, 0, none⟩)]] w fun e w' => (∃ v, e = .returned v ∧ OwnR w' w.heap.size b o v (strF (a3B T) 0 fs)) ∧ Below w.heap.size w w' := by
  obtain ⟨i0, hi, hz0, hz1, hz2⟩ := info_parts infoR
  have hmx : 300000 ≤ maxLen := by decide
  have HS := Lib.hid hs
  have HW := Lib.hid hwf
  have HMP := Lib.hid hmp
  have HMA := Lib.hid hm
  clear hs hwf hmp hm
  go_enter Try.func31, Try.ntmps31
  go_wp2
  go_loopg [5, 12] fs.length (fun g x i wr => ∃ j : Nat, i = .int .i64 j ∧ j + g = fs.length ∧ Hid (OwnR wr w.heap.size b o x (strF (a3B T) 0 (fs.take j))) ∧ Hid (Below w.heap.size w wr))
  case atStart => exact ⟨0, rfl, by omega, ownR_nil _ _ _ _, Below.refl _ _⟩
  case round =>
    obtain ⟨j, rfl, hj, HO, HB⟩ := hrel
    cases gk with
    | zero =>
      have hji : ¬ (j : Int) < (fs.length : Int) := by omega
      have HF := HO.out
      rw [List.take_of_length_le (by omega)] at HF
      have HF2 := Lib.hid HF
      clear HF
      go_wp2
      go_ret
      exact ⟨⟨_, rfl, HF2.out⟩, HB.out⟩
    | succ g =>
      have hji : (j : Int) < (fs.length : Int) := by omega
      have hjn : j < fs.length := by omega
      have hjb : (j : Int) ≤ 1000000 := by omega
      obtain ⟨b', o', sv, hA, hlt, hc, hsv⟩ := fva_at HS.out hjn
      injection hA with hA
      injection hA with hb9 ho9
      subst hb9
      subst ho9
      have hmem : fs[j] ∈ fs := List.getElem_mem hjn
      have hst := strF_take (a3B T) hjn
      have hlen := strF_len (a3B T) (fs.take j) 0
      have hlen2 : sumS (fs.take (j + 1)) ≤ sumS fs := sumS_pre fs (j + 1)
      have hlen3 := sumS_snoc hjn
      obtain ⟨f, hf⟩ : ∃ f, fs[j] = f := ⟨_, rfl⟩
      rw [hf] at hc hsv hmem hst hlen3
      have HST := Lib.hid hst
      have hc := hc.next HB.out hlt
      obtain ⟨As, cs, rfl, hss, hlc, hcm⟩ := hsv
      have HSS := Lib.hid hss
      have HLC : Hid (f.l.length ≤ cs) := hlc
      have HLN : Hid ((strF (a3B T) 0 (fs.take j)).length + f.l.length ≤ 100000) := by show _ ≤ _; omega
      obtain ⟨w1, hw1⟩ : ∃ w1, wr.alloc (.cells #[.int .i64 f.e, .int .i64 f.a, .int .i64 f.k, .int .i64 f.m, .string f.s, .slice As f.l.length cs] 30) = w1 := ⟨_, rfl⟩
      have hb1 : Below wr.heap.size wr w1 := by rw [← hw1]; exact (Below.refl _ _).alloc (Nat.le_refl _) _
      have hx := fcBx_new wr f (.slice As f.l.length cs)
      rw [hw1] at hx
      have HX := Lib.hid hx
      have HB1 := Lib.hid (HB.out.trans (hb1.mono HB.out.size))
      have HO1 := Lib.hid (HO.out.next hb1)
      have HC := Lib.hid (ask3_any T bB bM f As f.l.length cs w1 ((HB1.out.block bB HMP.out.lt).trans HMP.out) (HMA.out.next HB1.out) (HW.out f hmem))
      have HBR := Lib.hid hb1
      obtain ⟨v, hv⟩ : ∃ v, a3B T f = v := ⟨_, rfl⟩
      rw [hv] at HC HST
      have c0 := hc.1
      have c1 := hc.2.1
      have c2 := hc.2.2.1
      have c3 := hc.2.2.2.1
      have c4 := hc.2.2.2.2.1
      have c5 := hc.2.2.2.2.2
      have k0 := hx.k0
      have k1 := hx.k1
      have k2 := hx.k2
      have k3 := hx.k3
      have k4 := hx.k4
      have k5 := hx.k5
      clear hc hf hss hlc hcm hmem hst hlen hlen2 hlen3 hv hb1 hx
      go_wp2_with fail
      refine HC.out.mono ?_
      rintro e w2 ⟨rfl, hb2⟩
      have HB2 := Lib.hid (HB1.out.trans (hb2.mono HB1.out.size))
      have HO2 := Lib.hid (HO1.out.next hb2)
      have HX2 := Lib.hid (HX.out.next hb2)
      clear hb2 HC c0 c1 c2 c3 c4 c5 k0 k1 k2 k3 k4 k5 hw1 HO HO1 HX
      cases v with
      | false =>
        go_wp2
        go_roundg g
        case measure => omega
        case rel => exact ⟨j + 1, by go_num, by omega, by show OwnR _ _ _ _ _ _; rw [HST.out, if_neg (by decide), List.append_nil]; exact HO2.out, HB2.out⟩
      | true =>
        have k5 := HX2.out.k5
        go_wp2
        go_loopg [5, 24] f.l.length (fun g2 x i wr2 => ∃ k : Nat, i = .int .i64 k ∧ k + g2 = f.l.length ∧ Hid (OwnR wr2 w.heap.size b o x (strF (a3B T) 0 (fs.take j) ++ (strAt j f).take k)) ∧ Hid (Below w.heap.size w wr2))
        case atStart => exact ⟨0, rfl, by omega, by show OwnR _ _ _ _ _ _; rw [List.take_zero, List.append_nil]; exact HO2.out, HB2.out⟩
        case round =>
          obtain ⟨k, rfl, hk, HO3, HB3⟩ := hrel
          cases gk with
          | zero =>
            have hki : ¬ (k : Int) < (f.l.length : Int) := by omega
            have HF := HO3.out
            rw [List.take_of_length_le (show (strAt j f).length ≤ k by simp [strAt]; omega)] at HF
            have HF2 := Lib.hid HF
            clear HF
            go_wp2
            go_roundg g
            case measure => omega
            case rel => exact ⟨j + 1, by go_num, by omega, by show OwnR _ _ _ _ _ _; rw [HST.out, if_pos trivial]; exact HF2.out, HB3.out⟩
          | succ g2 =>
            have hki : (k : Int) < (f.l.length : Int) := by omega
            have hkn : k < f.l.length := by omega
            have hkb : (k : Int) ≤ 1000000 := by have := HLN.out; omega
            obtain ⟨bs, os, rfl, hlt2, hp⟩ := (HSS.out.next HB3.out (Nat.le_refl _)).at_ hkn
            obtain ⟨s, hs⟩ : ∃ s, f.l[k] = s := ⟨_, rfl⟩
            rw [hs] at hp
            have htk : (strAt j f).take (k + 1) = (strAt j f).take k ++ [⟨j, f, s⟩] := by
              rw [List.take_add_one]
              unfold strAt
              rw [List.getElem?_map, List.getElem?_eq_getElem hkn, hs]
              rfl
            have HTK := Lib.hid htk
            have hll : ((strAt j f).take k).length ≤ f.l.length := by simp [strAt]; omega
            obtain ⟨L, hL⟩ : ∃ L, strF (a3B T) 0 (fs.take j) ++ (strAt j f).take k = L := ⟨_, rfl⟩
            have HLL : Hid (L.length ≤ 100000) := by show _ ≤ _; rw [← hL, List.length_append]; have := HLN.out; omega
            have HL := Lib.hid hL
            rw [hL] at HO3
            have p0 := hp.c0
            have p1 := hp.c1
            clear hp hs htk hll hL
            go_wp2
            obtain ⟨g9, hg9⟩ : ∃ g9, wr.heap.size = g9 := ⟨_, rfl⟩
            obtain ⟨W5, hW5⟩ : ∃ W5, wr.alloc (.cells #[.int .i64 s.1, .int .i64 s.2] 34) = W5 := ⟨_, rfl⟩
            have hz5 : W5.heap.size = g9 + 1 := by rw [← hW5, ← hg9]; simp
            have HX5 : Hid (SpBx W5 g9 s) := by show SpBx _ _ _; rw [← hW5, ← hg9]; exact spBx_new wr s
            have hal : Below wr.heap.size wr W5 := by rw [← hW5]; exact (Below.refl _ _).alloc (Nat.le_refl _) _
            have HO5 := Lib.hid (HO3.out.next hal)
            have HB5 := Lib.hid (HB3.out.trans (hal.mono HB3.out.size))
            have HZ5 := Lib.hid hz5
            rw [hW5, hg9]
            clear hal hW5 hg9 p0 p1 hz5
            refine wp_region_held_drew (S := fun W => SpBx W g9 s) (by kernel_rfl) HX5.out (fun hHeld => ?_)
            refine takeV 0 (some 28) ((u5)) rfl rfl (by kernel_rfl) (by kernel_rfl) (by kernel_rfl) (fun _ _ _ h => h) (by rfl) (by (intro _w _hSw; (try dsimp only at _hSw); go_simp)) (by assumption) ?_
            simp only [Act.put, List.setIfInBounds_toArray, List.set_cons_zero, List.set_cons_succ]
            refine takeV 1 (some 29) ((.slice (some ⟨b, o, none⟩) fs.length c0)) rfl rfl (by kernel_rfl) (by kernel_rfl) (by kernel_rfl) (fun _ _ _ h => h) (by rfl) (by (intro _w _hSw; (try dsimp only at _hSw); go_simp)) (by assumption) ?_
            simp only [Act.put, List.setIfInBounds_toArray, List.set_cons_zero, List.set_cons_succ]
            refine takeV 2 (some 30) ((.int .i64 j)) rfl rfl (by kernel_rfl) (by kernel_rfl) (by kernel_rfl) (fun _ _ _ h => h) (by rfl) (by (intro _w _hSw; (try dsimp only at _hSw); go_simp)) (by assumption) ?_
            simp only [Act.put, List.setIfInBounds_toArray, List.set_cons_zero, List.set_cons_succ]
            refine takeV 3 (some 31) ((.pointer (some ⟨b, o + j * 6, none⟩))) rfl rfl (by kernel_rfl) (by kernel_rfl) (by kernel_rfl) (fun _ _ _ h => h) (by rfl) (by (intro _w _hSw; (try dsimp only at _hSw); go_simp)) (by assumption) ?_
            simp only [Act.put, List.setIfInBounds_toArray, List.set_cons_zero, List.set_cons_succ]
            refine takeV 4 (some 32) ((.agg #[.int .i64 s.1, .int .i64 s.2])) rfl rfl (by kernel_rfl) (by kernel_rfl) (by kernel_rfl) (fun _ _ _ h => h) (by rfl) (by (intro _w hSw; have q0 := hSw.c0; have q1 := hSw.c1; clear hSw; go_simp)) (by assumption) ?_
            simp only [Act.put, List.setIfInBounds_toArray, List.set_cons_zero, List.set_cons_succ]
            refine takeV 5 (some 33) ((.agg #[.pointer (some ⟨b, o + j * 6, none⟩), .int .i64 s.1, .int .i64 s.2])) rfl rfl (by kernel_rfl) (by kernel_rfl) (by kernel_rfl) (fun _ _ _ h => h) (by rfl) (by (intro _w _hSw; (try dsimp only at _hSw); go_simp)) (by assumption) ?_
            simp only [Act.put, List.setIfInBounds_toArray, List.set_cons_zero, List.set_cons_succ]
            refine callV 6 rfl (by kernel_rfl) (by rfl) (fun K hK => ?_)
            go_simp
            refine hK.out _ _ (SpBx.next (W := W5) (W' := W5.alloc (.cells #[.pointer (some ⟨b, o + j * 6, none⟩), .int .i64 s.1, .int .i64 s.2] 82)) HX5.out (((Below.refl _ W5).alloc (Nat.le_refl _) (.cells #[.pointer (some ⟨b, o + j * 6, none⟩), .int .i64 s.1, .int .i64 s.2] 82)))) (fun hHeld2 => ?_)
            clear hK K hHeld
            try simp only [Act.put, List.setIfInBounds_toArray, List.set_cons_zero, List.set_cons_succ]
            refine callV 7 rfl (by kernel_rfl) (by rfl) (fun K hK => ?_)
            refine wp_append_own _ _ _ 68 rfl w.heap.size 82 i0 (.agg #[.pointer none, .int .i64 0, .int .i64 0]) 3 24 Try.underlying68 hi hz0 hz1 hz2 rfl (by decide) u5 L.length (L.flatMap (cellsR b o)) rfl (World.ownsRow.alloc (w := W5) HO5.out (.cells #[.pointer (some ⟨b, o + j * 6, none⟩), .int .i64 s.1, .int .i64 s.2] 82)) ⟨W5.heap.size, 0, none⟩ 1 1 (cellsR b o ⟨j, f, s⟩) rfl rfl (fun q u h => litR W5 b o ⟨j, f, s⟩ q u h) (cellsR_one _ _ _) (by have := HLL.out; omega) (by have := HLL.out; omega) (Nat.le_trans HB5.out.size (by show W5.heap.size ≤ (W5.alloc _).heap.size; rw [World.size_alloc]; omega)) ?_
            intro v' w4 hown' hgrow _
            obtain ⟨g', cap', rfl⟩ := ownsRow_succ hown'
            have hS4 := hHeld2.off hgrow (HX5.out.not_row HO5.out)
            have HR4 := Lib.hid (OwnR.snoc hown')
            have HB4 : Hid (Below w.heap.size w w4) := (((HB5.out.alloc HB5.out.size _).drew).grown hgrow (by have := HB5.out.size; simp; omega) (fun q e => (World.ownsRow.lt HO5.out q e).1))
            clear hown' hgrow
            refine hK.out _ _ hS4 (fun hHeld4 => ?_)
            clear hK K hHeld2
            try simp only [Act.put, List.setIfInBounds_toArray]
            refine takeV 8 (some 5) ((.slice (some ⟨g', 0, none⟩) (L.length + 1) cap')) rfl rfl (by kernel_rfl) (by kernel_rfl) (by kernel_rfl) (fun _ _ _ h => h) (by rfl) (by (intro _w _hSw; (try dsimp only at _hSw); go_simp)) (by assumption) ?_
            simp only [Act.put]
            refine wpAnyH_done (by kernel_rfl) ?_ _
            go_wp2
            go_roundg g2
            case measure => omega
            case rel => exact ⟨k + 1, by go_num, by omega, by show OwnR _ _ _ _ _ _; rw [HTK.out, ← List.append_assoc, HL.out]; exact HR4.out, HB4.out⟩
set_option maxRecDepth 100000 in
set_option maxHeartbeats 8000000 in
theorem strU_any (T : List Att) (bB bM : Nat) (b o c0 : Nat) (fs : List FactP) (w : World) (hs : FVa w (.slice (some ⟨b, o, none⟩) fs.length c0) fs) (hl : fs.length ≤ 10000) (hS : sumS fs ≤ 100000) (hwf : ∀ f ∈ fs, WfF f)
    (hmp : Boxed w bB 62 (.map (some bM))) (hm : MapAt w bM T) :
    Calls Try.prog 31 #[.slice (some ⟨b, o, none⟩) fs.length c0, .func (.func 35) #[] #[.pointer (some ⟨bB, 0, none⟩)]] w fun e w' => (∃ v, e = .returned v ∧ OwnR w' w.heap.size b o v (strF (a4B T) 0 fs)) ∧ Below w.heap.size w w' := by
  obtain ⟨i0, hi, hz0, hz1, hz2⟩ := info_parts infoR
  have hmx : 300000 ≤ maxLen := by decide
  have HS := Lib.hid hs
  have HW := Lib.hid hwf
  have HMP := Lib.hid hmp
  have HMA := Lib.hid hm
  clear hs hwf hmp hm
  go_enter Try.func31, Try.ntmps31
  go_wp2
  go_loopg [5, 12] fs.length (fun g x i wr => ∃ j : Nat, i = .int .i64 j ∧ j + g = fs.length ∧ Hid (OwnR wr w.heap.size b o x (strF (a4B T) 0 (fs.take j))) ∧ Hid (Below w.heap.size w wr))
  case atStart => exact ⟨0, rfl, by omega, ownR_nil _ _ _ _, Below.refl _ _⟩
  case round =>
    obtain ⟨j, rfl, hj, HO, HB⟩ := hrel
    cases gk with
    | zero =>
      have hji : ¬ (j : Int) < (fs.length : Int) := by omega
      have HF := HO.out
      rw [List.take_of_length_le (by omega)] at HF
      have HF2 := Lib.hid HF
      clear HF
      go_wp2
      go_ret
      exact ⟨⟨_, rfl, HF2.out⟩, HB.out⟩
    | succ g =>
      have hji : (j : Int) < (fs.length : Int) := by omega
      have hjn : j < fs.length := by omega
      have hjb : (j : Int) ≤ 1000000 := by omega
      obtain ⟨b', o', sv, hA, hlt, hc, hsv⟩ := fva_at HS.out hjn
      injection hA with hA
      injection hA with hb9 ho9
      subst hb9
      subst ho9
      have hmem : fs[j] ∈ fs := List.getElem_mem hjn
      have hst := strF_take (a4B T) hjn
      have hlen := strF_len (a4B T) (fs.take j) 0
      have hlen2 : sumS (fs.take (j + 1)) ≤ sumS fs := sumS_pre fs (j + 1)
      have hlen3 := sumS_snoc hjn
      obtain ⟨f, hf⟩ : ∃ f, fs[j] = f := ⟨_, rfl⟩
      rw [hf] at hc hsv hmem hst hlen3
      have HST := Lib.hid hst
      have hc := hc.next HB.out hlt
      obtain ⟨As, cs, rfl, hss, hlc, hcm⟩ := hsv
      have HSS := Lib.hid hss
      have HLC : Hid (f.l.length ≤ cs) := hlc
      have HLN : Hid ((strF (a4B T) 0 (fs.take j)).length + f.l.length ≤ 100000) := by show _ ≤ _; omega
      obtain ⟨w1, hw1⟩ : ∃ w1, wr.alloc (.cells #[.int .i64 f.e, .int .i64 f.a, .int .i64 f.k, .int .i64 f.m, .string f.s, .slice As f.l.length cs] 30) = w1 := ⟨_, rfl⟩
      have hb1 : Below wr.heap.size wr w1 := by rw [← hw1]; exact (Below.refl _ _).alloc (Nat.le_refl _) _
      have hx := fcBx_new wr f (.slice As f.l.length cs)
      rw [hw1] at hx
      have HX := Lib.hid hx
      have HB1 := Lib.hid (HB.out.trans (hb1.mono HB.out.size))
      have HO1 := Lib.hid (HO.out.next hb1)
      have HC := Lib.hid (ask4_any T bB bM f As f.l.length cs w1 ((HB1.out.block bB HMP.out.lt).trans HMP.out) (HMA.out.next HB1.out) (HW.out f hmem))
      have HBR := Lib.hid hb1
      obtain ⟨v, hv⟩ : ∃ v, a4B T f = v := ⟨_, rfl⟩
      rw [hv] at HC HST
      have c0 := hc.1
      have c1 := hc.2.1
      have c2 := hc.2.2.1
      have c3 := hc.2.2.2.1
      have c4 := hc.2.2.2.2.1
      have c5 := hc.2.2.2.2.2
      have k0 := hx.k0
      have k1 := hx.k1
      have k2 := hx.k2
      have k3 := hx.k3
      have k4 := hx.k4
      have k5 := hx.k5
      clear hc hf hss hlc hcm hmem hst hlen hlen2 hlen3 hv hb1 hx
      go_wp2_with fail
      refine HC.out.mono ?_
      rintro e w2 ⟨rfl, hb2⟩
      have HB2 := Lib.hid (HB1.out.trans (hb2.mono HB1.out.size))
      have HO2 := Lib.hid (HO1.out.next hb2)
      have HX2 := Lib.hid (HX.out.next hb2)
      clear hb2 HC c0 c1 c2 c3 c4 c5 k0 k1 k2 k3 k4 k5 hw1 HO HO1 HX
      cases v with
      | false =>
        go_wp2
        go_roundg g
        case measure => omega
        case rel => exact ⟨j + 1, by go_num, by omega, by show OwnR _ _ _ _ _ _; rw [HST.out, if_neg (by decide), List.append_nil]; exact HO2.out, HB2.out⟩
      | true =>
        have k5 := HX2.out.k5
        go_wp2
        go_loopg [5, 24] f.l.length (fun g2 x i wr2 => ∃ k : Nat, i = .int .i64 k ∧ k + g2 = f.l.length ∧ Hid (OwnR wr2 w.heap.size b o x (strF (a4B T) 0 (fs.take j) ++ (strAt j f).take k)) ∧ Hid (Below w.heap.size w wr2))
        case atStart => exact ⟨0, rfl, by omega, by show OwnR _ _ _ _ _ _; rw [List.take_zero, List.append_nil]; exact HO2.out, HB2.out⟩
        case round =>
          obtain ⟨k, rfl, hk, HO3, HB3⟩ := hrel
          cases gk with
          | zero =>
            have hki : ¬ (k : Int) < (f.l.length : Int) := by omega
            have HF := HO3.out
            rw [List.take_of_length_le (show (strAt j f).length ≤ k by simp [strAt]; omega)] at HF
            have HF2 := Lib.hid HF
            clear HF
            go_wp2
            go_roundg g
            case measure => omega
            case rel => exact ⟨j + 1, by go_num, by omega, by show OwnR _ _ _ _ _ _; rw [HST.out, if_pos trivial]; exact HF2.out, HB3.out⟩
          | succ g2 =>
            have hki : (k : Int) < (f.l.length : Int) := by omega
            have hkn : k < f.l.length := by omega
            have hkb : (k : Int) ≤ 1000000 := by have := HLN.out; omega
            obtain ⟨bs, os, rfl, hlt2, hp⟩ := (HSS.out.next HB3.out (Nat.le_refl _)).at_ hkn
            obtain ⟨s, hs⟩ : ∃ s, f.l[k] = s := ⟨_, rfl⟩
            rw [hs] at hp
            have htk : (strAt j f).take (k + 1) = (strAt j f).take k ++ [⟨j, f, s⟩] := by
              rw [List.take_add_one]
              unfold strAt
              rw [List.getElem?_map, List.getElem?_eq_getElem hkn, hs]
              rfl
            have HTK := Lib.hid htk
            have hll : ((strAt j f).take k).length ≤ f.l.length := by simp [strAt]; omega
            obtain ⟨L, hL⟩ : ∃ L, strF (a4B T) 0 (fs.take j) ++ (strAt j f).take k = L := ⟨_, rfl⟩
            have HLL : Hid (L.length ≤ 100000) := by show _ ≤ _; rw [← hL, List.length_append]; have := HLN.out; omega
            have HL := Lib.hid hL
            rw [hL] at HO3
            have p0 := hp.c0
            have p1 := hp.c1
            clear hp hs htk hll hL
            go_wp2
            obtain ⟨g9, hg9⟩ : ∃ g9, wr.heap.size = g9 := ⟨_, rfl⟩
            obtain ⟨W5, hW5⟩ : ∃ W5, wr.alloc (.cells #[.int .i64 s.1, .int .i64 s.2] 34) = W5 := ⟨_, rfl⟩
            have hz5 : W5.heap.size = g9 + 1 := by rw [← hW5, ← hg9]; simp
            have HX5 : Hid (SpBx W5 g9 s) := by show SpBx _ _ _; rw [← hW5, ← hg9]; exact spBx_new wr s
            have hal : Below wr.heap.size wr W5 := by rw [← hW5]; exact (Below.refl _ _).alloc (Nat.le_refl _) _
            have HO5 := Lib.hid (HO3.out.next hal)
            have HB5 := Lib.hid (HB3.out.trans (hal.mono HB3.out.size))
            have HZ5 := Lib.hid hz5
            rw [hW5, hg9]
            clear hal hW5 hg9 p0 p1 hz5
            refine wp_region_held_drew (S := fun W => SpBx W g9 s) (by kernel_rfl) HX5.out (fun hHeld => ?_)
            refine takeV 0 (some 28) ((u5)) rfl rfl (by kernel_rfl) (by kernel_rfl) (by kernel_rfl) (fun _ _ _ h => h) (by rfl) (by (intro _w _hSw; (try dsimp only at _hSw); go_simp)) (by assumption) ?_
            simp only [Act.put, List.setIfInBounds_toArray, List.set_cons_zero, List.set_cons_succ]
            refine takeV 1 (some 29) ((.slice (some ⟨b, o, none⟩) fs.length c0)) rfl rfl (by kernel_rfl) (by kernel_rfl) (by kernel_rfl) (fun _ _ _ h => h) (by rfl) (by (intro _w _hSw; (try dsimp only at _hSw); go_simp)) (by assumption) ?_
            simp only [Act.put, List.setIfInBounds_toArray, List.set_cons_zero, List.set_cons_succ]
            refine takeV 2 (some 30) ((.int .i64 j)) rfl rfl (by kernel_rfl) (by kernel_rfl) (by kernel_rfl) (fun _ _ _ h => h) (by rfl) (by (intro _w _hSw; (try dsimp only at _hSw); go_simp)) (by assumption) ?_
            simp only [Act.put, List.setIfInBounds_toArray, List.set_cons_zero, List.set_cons_succ]
            refine takeV 3 (some 31) ((.pointer (some ⟨b, o + j * 6, none⟩))) rfl rfl (by kernel_rfl) (by kernel_rfl) (by kernel_rfl) (fun _ _ _ h => h) (by rfl) (by (intro _w _hSw; (try dsimp only at _hSw); go_simp)) (by assumption) ?_
            simp only [Act.put, List.setIfInBounds_toArray, List.set_cons_zero, List.set_cons_succ]
            refine takeV 4 (some 32) ((.agg #[.int .i64 s.1, .int .i64 s.2])) rfl rfl (by kernel_rfl) (by kernel_rfl) (by kernel_rfl) (fun _ _ _ h => h) (by rfl) (by (intro _w hSw; have q0 := hSw.c0; have q1 := hSw.c1; clear hSw; go_simp)) (by assumption) ?_
            simp only [Act.put, List.setIfInBounds_toArray, List.set_cons_zero, List.set_cons_succ]
            refine takeV 5 (some 33) ((.agg #[.pointer (some ⟨b, o + j * 6, none⟩), .int .i64 s.1, .int .i64 s.2])) rfl rfl (by kernel_rfl) (by kernel_rfl) (by kernel_rfl) (fun _ _ _ h => h) (by rfl) (by (intro _w _hSw; (try dsimp only at _hSw); go_simp)) (by assumption) ?_
            simp only [Act.put, List.setIfInBounds_toArray, List.set_cons_zero, List.set_cons_succ]
            refine callV 6 rfl (by kernel_rfl) (by rfl) (fun K hK => ?_)
            go_simp
            refine hK.out _ _ (SpBx.next (W := W5) (W' := W5.alloc (.cells #[.pointer (some ⟨b, o + j * 6, none⟩), .int .i64 s.1, .int .i64 s.2] 82)) HX5.out (((Below.refl _ W5).alloc (Nat.le_refl _) (.cells #[.pointer (some ⟨b, o + j * 6, none⟩), .int .i64 s.1, .int .i64 s.2] 82)))) (fun hHeld2 => ?_)
            clear hK K hHeld
            try simp only [Act.put, List.setIfInBounds_toArray, List.set_cons_zero, List.set_cons_succ]
            refine callV 7 rfl (by kernel_rfl) (by rfl) (fun K hK => ?_)
            refine wp_append_own _ _ _ 68 rfl w.heap.size 82 i0 (.agg #[.pointer none, .int .i64 0, .int .i64 0]) 3 24 Try.underlying68 hi hz0 hz1 hz2 rfl (by decide) u5 L.length (L.flatMap (cellsR b o)) rfl (World.ownsRow.alloc (w := W5) HO5.out (.cells #[.pointer (some ⟨b, o + j * 6, none⟩), .int .i64 s.1, .int .i64 s.2] 82)) ⟨W5.heap.size, 0, none⟩ 1 1 (cellsR b o ⟨j, f, s⟩) rfl rfl (fun q u h => litR W5 b o ⟨j, f, s⟩ q u h) (cellsR_one _ _ _) (by have := HLL.out; omega) (by have := HLL.out; omega) (Nat.le_trans HB5.out.size (by show W5.heap.size ≤ (W5.alloc _).heap.size; rw [World.size_alloc]; omega)) ?_
            intro v' w4 hown' hgrow _
            obtain ⟨g', cap', rfl⟩ := ownsRow_succ hown'
            have hS4 := hHeld2.off hgrow (HX5.out.not_row HO5.out)
            have HR4 := Lib.hid (OwnR.snoc hown')
            have HB4 : Hid (Below w.heap.size w w4) := (((HB5.out.alloc HB5.out.size _).drew).grown hgrow (by have := HB5.out.size; simp; omega) (fun q e => (World.ownsRow.lt HO5.out q e).1))
            clear hown' hgrow
            refine hK.out _ _ hS4 (fun hHeld4 => ?_)
            clear hK K hHeld2
            try simp only [Act.put, List.setIfInBounds_toArray]
            refine takeV 8 (some 5) ((.slice (some ⟨g', 0, none⟩) (L.length + 1) cap')) rfl rfl (by kernel_rfl) (by kernel_rfl) (by kernel_rfl) (fun _ _ _ h => h) (by rfl) (by (intro _w _hSw; (try dsimp only at _hSw); go_simp)) (by assumption) ?_
            simp only [Act.put]
            refine wpAnyH_done (by kernel_rfl) ?_ _
            go_wp2
            go_roundg g2
            case measure => omega
            case rel => exact ⟨k + 1, by go_num, by omega, by show OwnR _ _ _ _ _ _; rw [HTK.out, ← List.append_assoc, HL.out]; exact HR4.out, HB4.out⟩
end Go.Proofs.Ytlmihlepaoifiaa

/-
  CONTRACTS: what stretches are told apart by.
-/
namespace Go.Proofs.Ytlmihlepaoifiaa
open Go.RowKit Go.Maps Go.Shelf

/-- a stretch of these facts -/
def StrOk (fs : List FactP) (x : StrP) : Prop := fs[x.j]? = some x.f
theorem strF_ok (p : FactP → Bool) : ∀ (fs pre : List FactP) (x : StrP), x ∈ strF p pre.length fs → StrOk (pre ++ fs) x ∧ x.s ∈ x.f.l ∧ p x.f = true
  | [], _, x, h => by cases h
  | f :: r, pre, x, h => by
    rcases List.mem_append.1 (show x ∈ (if p f then strAt pre.length f else []) ++ strF p (pre.length + 1) r from h) with h | h
    · split at h
      · rename_i hp
        unfold strAt at h
        obtain ⟨s, hs, rfl⟩ := List.mem_map.1 h
        exact ⟨by unfold StrOk; simp, hs, hp⟩
      · cases h
    · have := strF_ok p r (pre ++ [f]) x (by simpa using h)
      simpa using this
theorem strF_ok0 {p : FactP → Bool} {fs : List FactP} {x : StrP} (h : x ∈ strF p 0 fs) : StrOk fs x ∧ x.s ∈ x.f.l ∧ p x.f = true := strF_ok p fs [] x h
theorem StrOk.at_ {W : World} {b o c0 : Nat} {fs : List FactP} {x : StrP} (h : StrOk fs x) (hs : FVa W (.slice (some ⟨b, o, none⟩) fs.length c0) fs) : ∃ sv, FcV W b (o + x.j * 6) x.f sv := by
  have hj : x.j < fs.length := (List.getElem?_eq_some_iff.1 h).1
  have he : fs[x.j] = x.f := (List.getElem?_eq_some_iff.1 h).2
  obtain ⟨b', o', sv, hA, _, hc, _⟩ := fva_at hs hj
  injection hA with hA
  injection hA with e1 e2
  subst e1
  subst e2
  rw [he] at hc
  exact ⟨sv, hc⟩
/-- a stretch in a box -/
def RBx (W : World) (g b o : Nat) (x : StrP) : Prop := W.heap[g]? = some (.cells #[.pointer (some ⟨b, o + x.j * 6, none⟩), .int .i64 x.s.1, .int .i64 x.s.2] 82 (0, 0))
theorem RBx.lt {W : World} {g b o : Nat} {x : StrP} (h : RBx W g b o x) : g < W.heap.size := (Array.getElem?_eq_some_iff.1 h).1
theorem RBx.next {W W' : World} {g b o : Nat} {x : StrP} (h : RBx W g b o x) (hb : Below W.heap.size W W') : RBx W' g b o x := (hb.block g h.lt).trans h
theorem RBx.c0 {W : World} {g b o : Nat} {x : StrP} (h : RBx W g b o x) : W.cell? ⟨g, 0, none⟩ = some (.pointer (some ⟨b, o + x.j * 6, none⟩)) := by unfold RBx at h; simp [World.cell?, h]
theorem RBx.c1 {W : World} {g b o : Nat} {x : StrP} (h : RBx W g b o x) : W.cell? ⟨g, 1, none⟩ = some (.int .i64 x.s.1) := by unfold RBx at h; simp [World.cell?, h]
theorem RBx.c2 {W : World} {g b o : Nat} {x : StrP} (h : RBx W g b o x) : W.cell? ⟨g, 2, none⟩ = some (.int .i64 x.s.2) := by unfold RBx at h; simp [World.cell?, h]
theorem rBx_new (W : World) (b o : Nat) (x : StrP) : RBx (W.alloc (.cells #[.pointer (some ⟨b, o + x.j * 6, none⟩), .int .i64 x.s.1, .int .i64 x.s.2] 82)) W.heap.size b o x := heap_alloc_new W _
/-- what holds while two stretches are compared -/
structure ByS (w : World) (g1 g2 b o c0 : Nat) (fs : List FactP) (x y : StrP) (W : World) : Prop where
  x1 : RBx W g1 b o x
  y1 : RBx W g2 b o y
  f : FVa W (.slice (some ⟨b, o, none⟩) fs.length c0) fs
  low : Below w.heap.size w W
theorem ByS.next {w : World} {g1 g2 b o c0 : Nat} {fs : List FactP} {x y : StrP} {W W' : World} (h : ByS w g1 g2 b o c0 fs x y W) (hb : Below W.heap.size W W') : ByS w g1 g2 b o c0 fs x y W' := ⟨h.x1.next hb, h.y1.next hb, h.f.next hb, h.low.trans (hb.mono h.low.size)⟩
set_option maxRecDepth 100000 in
set_option maxHeartbeats 2000000 in
theorem byE_any (b o c0 : Nat) (fs : List FactP) (x y : StrP) (w : World) (hs : FVa w (.slice (some ⟨b, o, none⟩) fs.length c0) fs) (hx : StrOk fs x) (hy : StrOk fs y) :
    Calls Try.prog 32 #[.agg #[.pointer (some ⟨b, o + x.j * 6, none⟩), .int .i64 x.s.1, .int .i64 x.s.2], .agg #[.pointer (some ⟨b, o + y.j * 6, none⟩), .int .i64 y.s.1, .int .i64 y.s.2]] w fun e w' => e = .returned (.int .i64 (ordI x.f.e y.f.e)) ∧ Below w.heap.size w w' := by
  obtain ⟨W5, hW5⟩ : ∃ W5, (w.alloc (.cells #[.pointer (some ⟨b, o + x.j * 6, none⟩), .int .i64 x.s.1, .int .i64 x.s.2] 82)).alloc (.cells #[.pointer (some ⟨b, o + y.j * 6, none⟩), .int .i64 y.s.1, .int .i64 y.s.2] 82) = W5 := ⟨_, rfl⟩
  have hb : Below w.heap.size w W5 := by rw [← hW5]; exact ((Below.refl _ _).alloc (Nat.le_refl _) _).alloc (by simp) _
  have HS5 : Hid (ByS w w.heap.size (w.heap.size + 1) b o c0 fs x y W5) := by
    refine ⟨?_, ?_, hs.next hb, hb⟩
    · rw [← hW5]
      exact (rBx_new w b o x).next ((Below.refl _ _).alloc (Nat.le_refl _) _)
    · rw [← hW5]
      have := rBx_new (w.alloc (.cells #[.pointer (some ⟨b, o + x.j * 6, none⟩), .int .i64 x.s.1, .int .i64 x.s.2] 82)) b o y
      rwa [World.size_alloc] at this
  have HX := Lib.hid hx
  have HY := Lib.hid hy
  clear hs hb hx hy
  go_enter Try.func32, Try.ntmps32
  go_wp2
  clear hW5
  refine wp_region_held_drew (S := ByS w w.heap.size (w.heap.size + 1) b o c0 fs x y) (by kernel_rfl) (HS5.out.next (below_ind (Below.refl _ _) 1)) (fun hHeld => ?_)
  refine takeV 0 (some 5) ((.pointer (some ⟨w.heap.size, 0, none⟩))) rfl rfl (by kernel_rfl) (by kernel_rfl) (by kernel_rfl) (fun _ _ _ h => h) (by rfl) (by (intro _w _hSw; (try dsimp only at _hSw); go_simp)) (by assumption) ?_
  simp only [Act.put, List.setIfInBounds_toArray, List.set_cons_zero, List.set_cons_succ]
  refine takeV 1 (some 6) ((.pointer (some ⟨b, o + x.j * 6, none⟩))) rfl rfl (by kernel_rfl) (by kernel_rfl) (by kernel_rfl) (fun _ _ _ h => h) (by rfl) (by (intro _w hSw; have q0 := hSw.x1.c0; clear hSw; go_simp)) (by assumption) ?_
  simp only [Act.put, List.setIfInBounds_toArray, List.set_cons_zero, List.set_cons_succ]
  refine takeV 2 (some 7) ((.pointer (some ⟨b, o + x.j * 6, none⟩))) rfl rfl (by kernel_rfl) (by kernel_rfl) (by kernel_rfl) (fun _ _ _ h => h) (by rfl) (by (intro _w _hSw; (try dsimp only at _hSw); go_simp)) (by assumption) ?_
  simp only [Act.put, List.setIfInBounds_toArray, List.set_cons_zero, List.set_cons_succ]
  refine takeV 3 (some 8) ((.pointer (some ⟨b, o + x.j * 6, none⟩))) rfl rfl (by kernel_rfl) (by kernel_rfl) (by kernel_rfl) (fun _ _ _ h => h) (by rfl) (by (intro _w _hSw; (try dsimp only at _hSw); go_simp)) (by assumption) ?_
  simp only [Act.put, List.setIfInBounds_toArray, List.set_cons_zero, List.set_cons_succ]
  refine takeV 4 (some 9) ((.int .i64 x.f.e)) rfl rfl (by kernel_rfl) (by kernel_rfl) (by kernel_rfl) (fun _ _ _ h => h) (by rfl) (by (intro _w hSw; obtain ⟨sv, hc⟩ := HX.out.at_ hSw.f; have q0 := hc.1; clear hc; clear hSw; go_simp)) (by assumption) ?_
  simp only [Act.put, List.setIfInBounds_toArray, List.set_cons_zero, List.set_cons_succ]
  refine takeV 5 (some 10) ((.pointer (some ⟨w.heap.size + 1, 0, none⟩))) rfl rfl (by kernel_rfl) (by kernel_rfl) (by kernel_rfl) (fun _ _ _ h => h) (by rfl) (by (intro _w _hSw; (try dsimp only at _hSw); go_simp)) (by assumption) ?_
  simp only [Act.put, List.setIfInBounds_toArray, List.set_cons_zero, List.set_cons_succ]
  refine takeV 6 (some 11) ((.pointer (some ⟨b, o + y.j * 6, none⟩))) rfl rfl (by kernel_rfl) (by kernel_rfl) (by kernel_rfl) (fun _ _ _ h => h) (by rfl) (by (intro _w hSw; have q0 := hSw.y1.c0; clear hSw; go_simp)) (by assumption) ?_
  simp only [Act.put, List.setIfInBounds_toArray, List.set_cons_zero, List.set_cons_succ]
  refine takeV 7 (some 12) ((.pointer (some ⟨b, o + y.j * 6, none⟩))) rfl rfl (by kernel_rfl) (by kernel_rfl) (by kernel_rfl) (fun _ _ _ h => h) (by rfl) (by (intro _w _hSw; (try dsimp only at _hSw); go_simp)) (by assumption) ?_
  simp only [Act.put, List.setIfInBounds_toArray, List.set_cons_zero, List.set_cons_succ]
  refine takeV 8 (some 13) ((.pointer (some ⟨b, o + y.j * 6, none⟩))) rfl rfl (by kernel_rfl) (by kernel_rfl) (by kernel_rfl) (fun _ _ _ h => h) (by rfl) (by (intro _w _hSw; (try dsimp only at _hSw); go_simp)) (by assumption) ?_
  simp only [Act.put, List.setIfInBounds_toArray, List.set_cons_zero, List.set_cons_succ]
  refine takeV 9 (some 14) ((.int .i64 y.f.e)) rfl rfl (by kernel_rfl) (by kernel_rfl) (by kernel_rfl) (fun _ _ _ h => h) (by rfl) (by (intro _w hSw; obtain ⟨sv, hc⟩ := HY.out.at_ hSw.f; have q0 := hc.1; clear hc; clear hSw; go_simp)) (by assumption) ?_
  simp only [Act.put, List.setIfInBounds_toArray, List.set_cons_zero, List.set_cons_succ]
  refine callV 10 rfl (by kernel_rfl) (by rfl) (fun K hK => ?_)
  go_simp
  go_at_call 51
  refine (cmpI64_any _ _ _).mono ?_
  rintro e w3 ⟨rfl, rfl⟩
  have g3 := hHeld
  refine hK.out _ _ g3 (fun hHeld3 => ?_)
  clear hK g3 K hHeld
  try simp only [Act.put, List.setIfInBounds_toArray, List.set_cons_zero, List.set_cons_succ]
  refine takeV 11 (some 4) ((.int .i64 (ordI x.f.e y.f.e))) rfl rfl (by kernel_rfl) (by kernel_rfl) (by kernel_rfl) (fun _ _ _ h => h) (by rfl) (by (intro _w _hSw; (try dsimp only at _hSw); go_simp)) (by assumption) ?_
  simp only [Act.put, List.setIfInBounds_toArray, List.set_cons_zero, List.set_cons_succ]
  refine wpAnyH_done (by kernel_rfl) ?_ _
  have HB := Lib.hid hHeld3.low
  clear hHeld3
  go_wp2
  go_ret
  exact ⟨rfl, HB.out⟩
set_option maxRecDepth 100000 in
set_option maxHeartbeats 2000000 in
theorem byA_any (b o c0 : Nat) (fs : List FactP) (x y : StrP) (w : World) (hs : FVa w (.slice (some ⟨b, o, none⟩) fs.length c0) fs) (hx : StrOk fs x) (hy : StrOk fs y) :
    Calls Try.prog 33 #[.agg #[.pointer (some ⟨b, o + x.j * 6, none⟩), .int .i64 x.s.1, .int .i64 x.s.2], .agg #[.pointer (some ⟨b, o + y.j * 6, none⟩), .int .i64 y.s.1, .int .i64 y.s.2]] w fun e w' => e = .returned (.int .i64 (ordI x.f.a y.f.a)) ∧ Below w.heap.size w w' := by
  obtain ⟨W5, hW5⟩ : ∃ W5, (w.alloc (.cells #[.pointer (some ⟨b, o + x.j * 6, none⟩), .int .i64 x.s.1, .int .i64 x.s.2] 82)).alloc (.cells #[.pointer (some ⟨b, o + y.j * 6, none⟩), .int .i64 y.s.1, .int .i64 y.s.2] 82) = W5 := ⟨_, rfl⟩
  have hb : Below w.heap.size w W5 := by rw [← hW5]; exact ((Below.refl _ _).alloc (Nat.le_refl _) _).alloc (by simp) _
  have HS5 : Hid (ByS w w.heap.size (w.heap.size + 1) b o c0 fs x y W5) := by
    refine ⟨?_, ?_, hs.next hb, hb⟩
    · rw [← hW5]
      exact (rBx_new w b o x).next ((Below.refl _ _).alloc (Nat.le_refl _) _)
    · rw [← hW5]
      have := rBx_new (w.alloc (.cells #[.pointer (some ⟨b, o + x.j * 6, none⟩), .int .i64 x.s.1, .int .i64 x.s.2] 82)) b o y
      rwa [World.size_alloc] at this
  have HX := Lib.hid hx
  have HY := Lib.hid hy
  clear hs hb hx hy
  go_enter Try.func33, Try.ntmps33
  go_wp2
  clear hW5
  refine wp_region_held_drew (S := ByS w w.heap.size (w.heap.size + 1) b o c0 fs x y) (by kernel_rfl) (HS5.out.next (below_ind (Below.refl _ _) 1)) (fun hHeld => ?_)
  refine takeV 0 (some 5) ((.pointer (some ⟨w.heap.size, 0, none⟩))) rfl rfl (by kernel_rfl) (by kernel_rfl) (by kernel_rfl) (fun _ _ _ h => h) (by rfl) (by (intro _w _hSw; (try dsimp only at _hSw); go_simp)) (by assumption) ?_
  simp only [Act.put, List.setIfInBounds_toArray, List.set_cons_zero, List.set_cons_succ]
  refine takeV 1 (some 6) ((.pointer (some ⟨b, o + x.j * 6, none⟩))) rfl rfl (by kernel_rfl) (by kernel_rfl) (by kernel_rfl) (fun _ _ _ h => h) (by rfl) (by (intro _w hSw; have q0 := hSw.x1.c0; clear hSw; go_simp)) (by assumption) ?_
  simp only [Act.put, List.setIfInBounds_toArray, List.set_cons_zero, List.set_cons_succ]
  refine takeV 2 (some 7) ((.pointer (some ⟨b, o + x.j * 6, none⟩))) rfl rfl (by kernel_rfl) (by kernel_rfl) (by kernel_rfl) (fun _ _ _ h => h) (by rfl) (by (intro _w _hSw; (try dsimp only at _hSw); go_simp)) (by assumption) ?_
  simp only [Act.put, List.setIfInBounds_toArray, List.set_cons_zero, List.set_cons_succ]
  refine takeV 3 (some 8) ((.pointer (some ⟨b, o + x.j * 6 + 1, none⟩))) rfl rfl (by kernel_rfl) (by kernel_rfl) (by kernel_rfl) (fun _ _ _ h => h) (by rfl) (by (intro _w _hSw; (try dsimp only at _hSw); go_simp)) (by assumption) ?_
  simp only [Act.put, List.setIfInBounds_toArray, List.set_cons_zero, List.set_cons_succ]
  refine takeV 4 (some 9) ((.int .i64 x.f.a)) rfl rfl (by kernel_rfl) (by kernel_rfl) (by kernel_rfl) (fun _ _ _ h => h) (by rfl) (by (intro _w hSw; obtain ⟨sv, hc⟩ := HX.out.at_ hSw.f; have q0 := hc.2.1; clear hc; clear hSw; go_simp)) (by assumption) ?_
  simp only [Act.put, List.setIfInBounds_toArray, List.set_cons_zero, List.set_cons_succ]
  refine takeV 5 (some 10) ((.pointer (some ⟨w.heap.size + 1, 0, none⟩))) rfl rfl (by kernel_rfl) (by kernel_rfl) (by kernel_rfl) (fun _ _ _ h => h) (by rfl) (by (intro _w _hSw; (try dsimp only at _hSw); go_simp)) (by assumption) ?_
  simp only [Act.put, List.setIfInBounds_toArray, List.set_cons_zero, List.set_cons_succ]
  refine takeV 6 (some 11) ((.pointer (some ⟨b, o + y.j * 6, none⟩))) rfl rfl (by kernel_rfl) (by kernel_rfl) (by kernel_rfl) (fun _ _ _ h => h) (by rfl) (by (intro _w hSw; have q0 := hSw.y1.c0; clear hSw; go_simp)) (by assumption) ?_
  simp only [Act.put, List.setIfInBounds_toArray, List.set_cons_zero, List.set_cons_succ]
  refine takeV 7 (some 12) ((.pointer (some ⟨b, o + y.j * 6, none⟩))) rfl rfl (by kernel_rfl) (by kernel_rfl) (by kernel_rfl) (fun _ _ _ h => h) (by rfl) (by (intro _w _hSw; (try dsimp only at _hSw); go_simp)) (by assumption) ?_
  simp only [Act.put, List.setIfInBounds_toArray, List.set_cons_zero, List.set_cons_succ]
  refine takeV 8 (some 13) ((.pointer (some ⟨b, o + y.j * 6 + 1, none⟩))) rfl rfl (by kernel_rfl) (by kernel_rfl) (by kernel_rfl) (fun _ _ _ h => h) (by rfl) (by (intro _w _hSw; (try dsimp only at _hSw); go_simp)) (by assumption) ?_
  simp only [Act.put, List.setIfInBounds_toArray, List.set_cons_zero, List.set_cons_succ]
  refine takeV 9 (some 14) ((.int .i64 y.f.a)) rfl rfl (by kernel_rfl) (by kernel_rfl) (by kernel_rfl) (fun _ _ _ h => h) (by rfl) (by (intro _w hSw; obtain ⟨sv, hc⟩ := HY.out.at_ hSw.f; have q0 := hc.2.1; clear hc; clear hSw; go_simp)) (by assumption) ?_
  simp only [Act.put, List.setIfInBounds_toArray, List.set_cons_zero, List.set_cons_succ]
  refine callV 10 rfl (by kernel_rfl) (by rfl) (fun K hK => ?_)
  go_simp
  go_at_call 51
  refine (cmpI64_any _ _ _).mono ?_
  rintro e w3 ⟨rfl, rfl⟩
  have g3 := hHeld
  refine hK.out _ _ g3 (fun hHeld3 => ?_)
  clear hK g3 K hHeld
  try simp only [Act.put, List.setIfInBounds_toArray, List.set_cons_zero, List.set_cons_succ]
  refine takeV 11 (some 4) ((.int .i64 (ordI x.f.a y.f.a))) rfl rfl (by kernel_rfl) (by kernel_rfl) (by kernel_rfl) (fun _ _ _ h => h) (by rfl) (by (intro _w _hSw; (try dsimp only at _hSw); go_simp)) (by assumption) ?_
  simp only [Act.put, List.setIfInBounds_toArray, List.set_cons_zero, List.set_cons_succ]
  refine wpAnyH_done (by kernel_rfl) ?_ _
  have HB := Lib.hid hHeld3.low
  clear hHeld3
  go_wp2
  go_ret
  exact ⟨rfl, HB.out⟩
set_option maxRecDepth 100000 in
set_option maxHeartbeats 2000000 in
theorem byV_any (b o c0 : Nat) (fs : List FactP) (x y : StrP) (w : World) (hs : FVa w (.slice (some ⟨b, o, none⟩) fs.length c0) fs) (hx : StrOk fs x) (hy : StrOk fs y) :
    Calls Try.prog 36 #[.agg #[.pointer (some ⟨b, o + x.j * 6, none⟩), .int .i64 x.s.1, .int .i64 x.s.2], .agg #[.pointer (some ⟨b, o + y.j * 6, none⟩), .int .i64 y.s.1, .int .i64 y.s.2]] w fun e w' => e = .returned (.int .i64 (ordV x.f.k x.f.m x.f.s y.f.k y.f.m y.f.s)) ∧ Below w.heap.size w w' := by
  obtain ⟨W5, hW5⟩ : ∃ W5, (w.alloc (.cells #[.pointer (some ⟨b, o + x.j * 6, none⟩), .int .i64 x.s.1, .int .i64 x.s.2] 82)).alloc (.cells #[.pointer (some ⟨b, o + y.j * 6, none⟩), .int .i64 y.s.1, .int .i64 y.s.2] 82) = W5 := ⟨_, rfl⟩
  have hb : Below w.heap.size w W5 := by rw [← hW5]; exact ((Below.refl _ _).alloc (Nat.le_refl _) _).alloc (by simp) _
  have HS5 : Hid (ByS w w.heap.size (w.heap.size + 1) b o c0 fs x y W5) := by
    refine ⟨?_, ?_, hs.next hb, hb⟩
    · rw [← hW5]
      exact (rBx_new w b o x).next ((Below.refl _ _).alloc (Nat.le_refl _) _)
    · rw [← hW5]
      have := rBx_new (w.alloc (.cells #[.pointer (some ⟨b, o + x.j * 6, none⟩), .int .i64 x.s.1, .int .i64 x.s.2] 82)) b o y
      rwa [World.size_alloc] at this
  have HX := Lib.hid hx
  have HY := Lib.hid hy
  clear hs hb hx hy
  go_enter Try.func36, Try.ntmps36
  go_wp2
  clear hW5
  refine wp_region_held_drew (S := ByS w w.heap.size (w.heap.size + 1) b o c0 fs x y) (by kernel_rfl) (HS5.out.next (below_ind (Below.refl _ _) 1)) (fun hHeld => ?_)
  refine takeV 0 (some 5) ((.pointer (some ⟨w.heap.size, 0, none⟩))) rfl rfl (by kernel_rfl) (by kernel_rfl) (by kernel_rfl) (fun _ _ _ h => h) (by rfl) (by (intro _w _hSw; (try dsimp only at _hSw); go_simp)) (by assumption) ?_
  simp only [Act.put, List.setIfInBounds_toArray, List.set_cons_zero, List.set_cons_succ]
  refine takeV 1 (some 6) ((.pointer (some ⟨b, o + x.j * 6, none⟩))) rfl rfl (by kernel_rfl) (by kernel_rfl) (by kernel_rfl) (fun _ _ _ h => h) (by rfl) (by (intro _w hSw; have q0 := hSw.x1.c0; clear hSw; go_simp)) (by assumption) ?_
  simp only [Act.put, List.setIfInBounds_toArray, List.set_cons_zero, List.set_cons_succ]
  refine takeV 2 (some 7) ((.pointer (some ⟨b, o + x.j * 6, none⟩))) rfl rfl (by kernel_rfl) (by kernel_rfl) (by kernel_rfl) (fun _ _ _ h => h) (by rfl) (by (intro _w _hSw; (try dsimp only at _hSw); go_simp)) (by assumption) ?_
  simp only [Act.put, List.setIfInBounds_toArray, List.set_cons_zero, List.set_cons_succ]
  refine takeV 3 (some 8) ((.pointer (some ⟨b, o + x.j * 6 + 2, none⟩))) rfl rfl (by kernel_rfl) (by kernel_rfl) (by kernel_rfl) (fun _ _ _ h => h) (by rfl) (by (intro _w _hSw; (try dsimp only at _hSw); go_simp)) (by assumption) ?_
  simp only [Act.put, List.setIfInBounds_toArray, List.set_cons_zero, List.set_cons_succ]
  refine takeV 4 (some 9) ((.agg #[.int .i64 x.f.k, .int .i64 x.f.m, .string x.f.s])) rfl rfl (by kernel_rfl) (by kernel_rfl) (by kernel_rfl) (fun _ _ _ h => h) (by rfl) (by (intro _w hSw; obtain ⟨sv, hc⟩ := HX.out.at_ hSw.f; have q0 := hc.2.2.1; have q1 := hc.2.2.2.1; have q2 := hc.2.2.2.2.1; clear hc; clear hSw; go_simp)) (by assumption) ?_
  simp only [Act.put, List.setIfInBounds_toArray, List.set_cons_zero, List.set_cons_succ]
  refine takeV 5 (some 10) ((.pointer (some ⟨w.heap.size + 1, 0, none⟩))) rfl rfl (by kernel_rfl) (by kernel_rfl) (by kernel_rfl) (fun _ _ _ h => h) (by rfl) (by (intro _w _hSw; (try dsimp only at _hSw); go_simp)) (by assumption) ?_
  simp only [Act.put, List.setIfInBounds_toArray, List.set_cons_zero, List.set_cons_succ]
  refine takeV 6 (some 11) ((.pointer (some ⟨b, o + y.j * 6, none⟩))) rfl rfl (by kernel_rfl) (by kernel_rfl) (by kernel_rfl) (fun _ _ _ h => h) (by rfl) (by (intro _w hSw; have q0 := hSw.y1.c0; clear hSw; go_simp)) (by assumption) ?_
  simp only [Act.put, List.setIfInBounds_toArray, List.set_cons_zero, List.set_cons_succ]
  refine takeV 7 (some 12) ((.pointer (some ⟨b, o + y.j * 6, none⟩))) rfl rfl (by kernel_rfl) (by kernel_rfl) (by kernel_rfl) (fun _ _ _ h => h) (by rfl) (by (intro _w _hSw; (try dsimp only at _hSw); go_simp)) (by assumption) ?_
  simp only [Act.put, List.setIfInBounds_toArray, List.set_cons_zero, List.set_cons_succ]
  refine takeV 8 (some 13) ((.pointer (some ⟨b, o + y.j * 6 + 2, none⟩))) rfl rfl (by kernel_rfl) (by kernel_rfl) (by kernel_rfl) (fun _ _ _ h => h) (by rfl) (by (intro _w _hSw; (try dsimp only at _hSw); go_simp)) (by assumption) ?_
  simp only [Act.put, List.setIfInBounds_toArray, List.set_cons_zero, List.set_cons_succ]
  refine takeV 9 (some 14) ((.agg #[.int .i64 y.f.k, .int .i64 y.f.m, .string y.f.s])) rfl rfl (by kernel_rfl) (by kernel_rfl) (by kernel_rfl) (fun _ _ _ h => h) (by rfl) (by (intro _w hSw; obtain ⟨sv, hc⟩ := HY.out.at_ hSw.f; have q0 := hc.2.2.1; have q1 := hc.2.2.2.1; have q2 := hc.2.2.2.2.1; clear hc; clear hSw; go_simp)) (by assumption) ?_
  simp only [Act.put, List.setIfInBounds_toArray, List.set_cons_zero, List.set_cons_succ]
  refine callV 10 rfl (by kernel_rfl) (by rfl) (fun K hK => ?_)
  go_simp
  go_at_call 52
  refine (compare_any _ _ _ _ _ _ _).mono ?_
  rintro e w3 ⟨rfl, hb3⟩
  have g3 := hHeld.next hb3
  clear hb3
  refine hK.out _ _ g3 (fun hHeld3 => ?_)
  clear hK g3 K hHeld
  try simp only [Act.put, List.setIfInBounds_toArray, List.set_cons_zero, List.set_cons_succ]
  refine takeV 11 (some 4) ((.int .i64 (ordV x.f.k x.f.m x.f.s y.f.k y.f.m y.f.s))) rfl rfl (by kernel_rfl) (by kernel_rfl) (by kernel_rfl) (fun _ _ _ h => h) (by rfl) (by (intro _w _hSw; (try dsimp only at _hSw); go_simp)) (by assumption) ?_
  simp only [Act.put, List.setIfInBounds_toArray, List.set_cons_zero, List.set_cons_succ]
  refine wpAnyH_done (by kernel_rfl) ?_ _
  have HB := Lib.hid hHeld3.low
  clear hHeld3
  go_wp2
  go_ret
  exact ⟨rfl, HB.out⟩
end Go.Proofs.Ytlmihlepaoifiaa

/-
  CONTRACT: the closure by which meet puts stretches in order.
-/
namespace Go.Proofs.Ytlmihlepaoifiaa
open Go.RowKit Go.Maps Go.Shelf

/-- two functions in a row, in a box -/
structure PartsAt (W : World) (bP bL c : Nat) (f1 f2 : Nat) : Prop where
  box : Boxed W bP 78 (.slice (some ⟨bL, 0, none⟩) 2 c)
  lt : bL < W.heap.size
  p0 : W.cell? ⟨bL, 0, none⟩ = some (.func (.func f1) #[] #[])
  p1 : W.cell? ⟨bL, 1, none⟩ = some (.func (.func f2) #[] #[])
theorem PartsAt.next {W W' : World} {bP bL c f1 f2 : Nat} (h : PartsAt W bP bL c f1 f2) (hb : Below W.heap.size W W') : PartsAt W' bP bL c f1 f2 :=
  ⟨(hb.block bP h.box.lt).trans h.box, Nat.lt_of_lt_of_le h.lt hb.size, (hb.cell (p := ⟨bL, 0, none⟩) h.lt).trans h.p0, (hb.cell (p := ⟨bL, 1, none⟩) h.lt).trans h.p1⟩
/-- in order by two parts, then by what begins first -/
def cmpK (k1 k2 : StrP → StrP → Int) (x y : StrP) : Int := if k1 x y = 0 then (if k2 x y = 0 then ordI x.s.1 y.s.1 else k2 x y) else k1 x y
def kE (x y : StrP) : Int := ordI x.f.e y.f.e
def kA (x y : StrP) : Int := ordI x.f.a y.f.a
def kV (x y : StrP) : Int := ordV x.f.k x.f.m x.f.s y.f.k y.f.m y.f.s
structure CmpS (w : World) (g1 g2 b o c0 bP bL c f1 f2 : Nat) (fs : List FactP) (x y : StrP) (W : World) : Prop where
  s : ByS w g1 g2 b o c0 fs x y W
  p : PartsAt W bP bL c f1 f2
theorem CmpS.next {w : World} {g1 g2 b o c0 bP bL c f1 f2 : Nat} {fs : List FactP} {x y : StrP} {W W' : World} (h : CmpS w g1 g2 b o c0 bP bL c f1 f2 fs x y W) (hb : Below W.heap.size W W') : CmpS w g1 g2 b o c0 bP bL c f1 f2 fs x y W' := ⟨h.s.next hb, h.p.next hb⟩
set_option maxRecDepth 100000 in
set_option maxHeartbeats 4000000 in
theorem cmpT_any (b o c0 bP bL c : Nat) (fs : List FactP) (x y : StrP) (w : World) (hs : FVa w (.slice (some ⟨b, o, none⟩) fs.length c0) fs) (hx : StrOk fs x) (hy : StrOk fs y) (hp : PartsAt w bP bL c 32 33) :
    Calls Try.prog 50 #[.agg #[.pointer (some ⟨b, o + x.j * 6, none⟩), .int .i64 x.s.1, .int .i64 x.s.2], .agg #[.pointer (some ⟨b, o + y.j * 6, none⟩), .int .i64 y.s.1, .int .i64 y.s.2], .pointer (some ⟨bP, 0, none⟩)] w fun e w' => e = .returned (.int .i64 (cmpK kE kA x y)) ∧ Below w.heap.size w w' := by
  obtain ⟨W5, hW5⟩ : ∃ W5, (w.alloc (.cells #[.pointer (some ⟨b, o + x.j * 6, none⟩), .int .i64 x.s.1, .int .i64 x.s.2] 82)).alloc (.cells #[.pointer (some ⟨b, o + y.j * 6, none⟩), .int .i64 y.s.1, .int .i64 y.s.2] 82) = W5 := ⟨_, rfl⟩
  have hb : Below w.heap.size w W5 := by rw [← hW5]; exact ((Below.refl _ _).alloc (Nat.le_refl _) _).alloc (by simp) _
  have HS5 : Hid (CmpS w w.heap.size (w.heap.size + 1) b o c0 bP bL c 32 33 fs x y W5) := by
    refine ⟨⟨?_, ?_, hs.next hb, hb⟩, hp.next hb⟩
    · rw [← hW5]
      exact (rBx_new w b o x).next ((Below.refl _ _).alloc (Nat.le_refl _) _)
    · rw [← hW5]
      have := rBx_new (w.alloc (.cells #[.pointer (some ⟨b, o + x.j * 6, none⟩), .int .i64 x.s.1, .int .i64 x.s.2] 82)) b o y
      rwa [World.size_alloc] at this
  have HX := Lib.hid hx
  have HY := Lib.hid hy
  have b0 := HS5.out.p.box.cell
  clear hs hb hx hy hp
  go_enter Try.func50, Try.ntmps50
  go_wp2
  clear hW5 b0
  go_loopg [11] 2 (fun g i wr => ∃ k : Nat, i = .int .i64 k ∧ k + g = 2 ∧ Hid (0 < k → kE x y = 0) ∧ Hid (1 < k → kA x y = 0) ∧ Hid (CmpS w w.heap.size (w.heap.size + 1) b o c0 bP bL c 32 33 fs x y wr))
  case atStart => exact ⟨0, rfl, by omega, fun h => absurd h (by omega), fun h => absurd h (by omega), HS5.out⟩
  case round =>
    obtain ⟨k, rfl, hk, H1, H2, HS⟩ := hrel
    cases gk with
    | zero =>
      obtain rfl : k = 2 := by omega
      have HR : Hid (cmpK kE kA x y = ordI x.s.1 y.s.1) := by
        show _ = _
        unfold cmpK
        rw [if_pos (H1.out (by omega)), if_pos (H2.out (by omega))]
      have hx1 := HS.out.s.x1.c1
      have hy1 := HS.out.s.y1.c1
      go_wp2_with fail
      refine (cmpI64_any _ _ _).mono ?_
      rintro e w3 ⟨rfl, rfl⟩
      clear hx1 hy1
      go_wp2
      go_ret
      exact ⟨by rw [HR.out]; rfl, HS.out.s.low⟩
    | succ g =>
      rcases (show k = 0 ∨ k = 1 by omega) with rfl | rfl
      · have p0 := HS.out.p.p0
        have hx0 := HS.out.s.x1.c0
        have hx1 := HS.out.s.x1.c1
        have hx2 := HS.out.s.x1.c2
        have hy0 := HS.out.s.y1.c0
        have hy1 := HS.out.s.y1.c1
        have hy2 := HS.out.s.y1.c2
        have HC := Lib.hid (byE_any b o c0 fs x y wr HS.out.s.f HX.out HY.out)
        go_wp2_with fail
        refine (show Calls _ _ _ wr (fun e w' => e = .returned (.int .i64 (kE x y)) ∧ Below wr.heap.size wr w') from HC.out).mono ?_
        rintro e w3 ⟨rfl, hb3⟩
        have HS3 := Lib.hid (HS.out.next hb3)
        obtain ⟨v, hv⟩ : ∃ v, kE x y = v := ⟨_, rfl⟩
        rw [hv]
        have HV := Lib.hid hv
        clear hb3 HC hx0 hx1 hx2 hy0 hy1 hy2 p0 hv
        by_cases h0 : v = 0
        · subst h0
          go_wp2
          go_roundg g
          case measure => omega
          case rel => exact ⟨0 + 1, by go_num, by omega, fun _ => HV.out, fun h => absurd h (by omega), HS3.out⟩
        · have hd : (v != 0) = true := by simp [h0]
          have HR : Hid (cmpK kE kA x y = v) := by
            show _ = _
            unfold cmpK
            rw [if_neg (by rw [HV.out]; exact h0)]; exact HV.out
          go_wp2
          go_ret
          exact ⟨by rw [HR.out]; rfl, HS3.out.s.low⟩
      · have p1 := HS.out.p.p1
        have hx0 := HS.out.s.x1.c0
        have hx1 := HS.out.s.x1.c1
        have hx2 := HS.out.s.x1.c2
        have hy0 := HS.out.s.y1.c0
        have hy1 := HS.out.s.y1.c1
        have hy2 := HS.out.s.y1.c2
        have HC := Lib.hid (byA_any b o c0 fs x y wr HS.out.s.f HX.out HY.out)
        go_wp2_with fail
        refine (show Calls _ _ _ wr (fun e w' => e = .returned (.int .i64 (kA x y)) ∧ Below wr.heap.size wr w') from HC.out).mono ?_
        rintro e w3 ⟨rfl, hb3⟩
        have HS3 := Lib.hid (HS.out.next hb3)
        obtain ⟨v, hv⟩ : ∃ v, kA x y = v := ⟨_, rfl⟩
        rw [hv]
        have HV := Lib.hid hv
        clear hb3 HC hx0 hx1 hx2 hy0 hy1 hy2 p1 hv
        by_cases h0 : v = 0
        · subst h0
          go_wp2
          go_roundg g
          case measure => omega
          case rel => exact ⟨1 + 1, by go_num, by omega, fun _ => H1.out (by omega), fun _ => HV.out, HS3.out⟩
        · have hd : (v != 0) = true := by simp [h0]
          have HR : Hid (cmpK kE kA x y = v) := by
            show _ = _
            unfold cmpK
            rw [if_pos (H1.out (by omega)), if_neg (by rw [HV.out]; exact h0)]; exact HV.out
          go_wp2
          go_ret
          exact ⟨by rw [HR.out]; rfl, HS3.out.s.low⟩
set_option maxRecDepth 100000 in
set_option maxHeartbeats 4000000 in
theorem cmpU_any (b o c0 bP bL c : Nat) (fs : List FactP) (x y : StrP) (w : World) (hs : FVa w (.slice (some ⟨b, o, none⟩) fs.length c0) fs) (hx : StrOk fs x) (hy : StrOk fs y) (hp : PartsAt w bP bL c 33 36) :
    Calls Try.prog 50 #[.agg #[.pointer (some ⟨b, o + x.j * 6, none⟩), .int .i64 x.s.1, .int .i64 x.s.2], .agg #[.pointer (some ⟨b, o + y.j * 6, none⟩), .int .i64 y.s.1, .int .i64 y.s.2], .pointer (some ⟨bP, 0, none⟩)] w fun e w' => e = .returned (.int .i64 (cmpK kA kV x y)) ∧ Below w.heap.size w w' := by
  obtain ⟨W5, hW5⟩ : ∃ W5, (w.alloc (.cells #[.pointer (some ⟨b, o + x.j * 6, none⟩), .int .i64 x.s.1, .int .i64 x.s.2] 82)).alloc (.cells #[.pointer (some ⟨b, o + y.j * 6, none⟩), .int .i64 y.s.1, .int .i64 y.s.2] 82) = W5 := ⟨_, rfl⟩
  have hb : Below w.heap.size w W5 := by rw [← hW5]; exact ((Below.refl _ _).alloc (Nat.le_refl _) _).alloc (by simp) _
  have HS5 : Hid (CmpS w w.heap.size (w.heap.size + 1) b o c0 bP bL c 33 36 fs x y W5) := by
    refine ⟨⟨?_, ?_, hs.next hb, hb⟩, hp.next hb⟩
    · rw [← hW5]
      exact (rBx_new w b o x).next ((Below.refl _ _).alloc (Nat.le_refl _) _)
    · rw [← hW5]
      have := rBx_new (w.alloc (.cells #[.pointer (some ⟨b, o + x.j * 6, none⟩), .int .i64 x.s.1, .int .i64 x.s.2] 82)) b o y
      rwa [World.size_alloc] at this
  have HX := Lib.hid hx
  have HY := Lib.hid hy
  have b0 := HS5.out.p.box.cell
  clear hs hb hx hy hp
  go_enter Try.func50, Try.ntmps50
  go_wp2
  clear hW5 b0
  go_loopg [11] 2 (fun g i wr => ∃ k : Nat, i = .int .i64 k ∧ k + g = 2 ∧ Hid (0 < k → kA x y = 0) ∧ Hid (1 < k → kV x y = 0) ∧ Hid (CmpS w w.heap.size (w.heap.size + 1) b o c0 bP bL c 33 36 fs x y wr))
  case atStart => exact ⟨0, rfl, by omega, fun h => absurd h (by omega), fun h => absurd h (by omega), HS5.out⟩
  case round =>
    obtain ⟨k, rfl, hk, H1, H2, HS⟩ := hrel
    cases gk with
    | zero =>
      obtain rfl : k = 2 := by omega
      have HR : Hid (cmpK kA kV x y = ordI x.s.1 y.s.1) := by
        show _ = _
        unfold cmpK
        rw [if_pos (H1.out (by omega)), if_pos (H2.out (by omega))]
      have hx1 := HS.out.s.x1.c1
      have hy1 := HS.out.s.y1.c1
      go_wp2_with fail
      refine (cmpI64_any _ _ _).mono ?_
      rintro e w3 ⟨rfl, rfl⟩
      clear hx1 hy1
      go_wp2
      go_ret
      exact ⟨by rw [HR.out]; rfl, HS.out.s.low⟩
    | succ g =>
      rcases (show k = 0 ∨ k = 1 by omega) with rfl | rfl
      · have p0 := HS.out.p.p0
        have hx0 := HS.out.s.x1.c0
        have hx1 := HS.out.s.x1.c1
        have hx2 := HS.out.s.x1.c2
        have hy0 := HS.out.s.y1.c0
        have hy1 := HS.out.s.y1.c1
        have hy2 := HS.out.s.y1.c2
        have HC := Lib.hid (byA_any b o c0 fs x y wr HS.out.s.f HX.out HY.out)
        go_wp2_with fail
        refine (show Calls _ _ _ wr (fun e w' => e = .returned (.int .i64 (kA x y)) ∧ Below wr.heap.size wr w') from HC.out).mono ?_
        rintro e w3 ⟨rfl, hb3⟩
        have HS3 := Lib.hid (HS.out.next hb3)
        obtain ⟨v, hv⟩ : ∃ v, kA x y = v := ⟨_, rfl⟩
        rw [hv]
        have HV := Lib.hid hv
        clear hb3 HC hx0 hx1 hx2 hy0 hy1 hy2 p0 hv
        by_cases h0 : v = 0
        · subst h0
          go_wp2
          go_roundg g
          case measure => omega
          case rel => exact ⟨0 + 1, by go_num, by omega, fun _ => HV.out, fun h => absurd h (by omega), HS3.out⟩
        · have hd : (v != 0) = true := by simp [h0]
          have HR : Hid (cmpK kA kV x y = v) := by
            show _ = _
            unfold cmpK
            rw [if_neg (by rw [HV.out]; exact h0)]; exact HV.out
          go_wp2
          go_ret
          exact ⟨by rw [HR.out]; rfl, HS3.out.s.low⟩
      · have p1 := HS.out.p.p1
        have hx0 := HS.out.s.x1.c0
        have hx1 := HS.out.s.x1.c1
        have hx2 := HS.out.s.x1.c2
        have hy0 := HS.out.s.y1.c0
        have hy1 := HS.out.s.y1.c1
        have hy2 := HS.out.s.y1.c2
        have HC := Lib.hid (byV_any b o c0 fs x y wr HS.out.s.f HX.out HY.out)
        go_wp2_with fail
        refine (show Calls _ _ _ wr (fun e w' => e = .returned (.int .i64 (kV x y)) ∧ Below wr.heap.size wr w') from HC.out).mono ?_
        rintro e w3 ⟨rfl, hb3⟩
        have HS3 := Lib.hid (HS.out.next hb3)
        obtain ⟨v, hv⟩ : ∃ v, kV x y = v := ⟨_, rfl⟩
        rw [hv]
        have HV := Lib.hid hv
        clear hb3 HC hx0 hx1 hx2 hy0 hy1 hy2 p1 hv
        by_cases h0 : v = 0
        · subst h0
          go_wp2
          go_roundg g
          case measure => omega
          case rel => exact ⟨1 + 1, by go_num, by omega, fun _ => H1.out (by omega), fun _ => HV.out, HS3.out⟩
        · have hd : (v != 0) = true := by simp [h0]
          have HR : Hid (cmpK kA kV x y = v) := by
            show _ = _
            unfold cmpK
            rw [if_pos (H1.out (by omega)), if_neg (by rw [HV.out]; exact h0)]; exact HV.out
          go_wp2
          go_ret
          exact ⟨by rw [HR.out]; rfl, HS3.out.s.low⟩
end Go.Proofs.Ytlmihlepaoifiaa
