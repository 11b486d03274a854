/-
  THE LAW TreePlays.
-/
import Derived.Test.YtohpilamoglhcaaQPlayP
import Derived.Test.YtohpilamoglhcaaQTells
import Derived.Deep.DeepCutAuto
import Derived.Deep.CutBlock
import Derived.Laws.AppendOwnNone
namespace Go.Proofs.Ytohpilamoglhcaa
open Go.RowKit

/-- appending bytes that may be nil to a row of bytes -/
theorem wpList_append_anyB {P : Program} {w : World} {ops : Array Oper} {rest : List Oper} {o : Oper} {a : Act} {Q : Exit → Act → World → Prop} (hgd : o.guard = none) (s x : Operand) (t : TypeId)
    (ho : o.op = .call { callee := .builtin .append, args := #[s, x], argTypes := #[t, t] })
    (base : Nat) (e : TypeId) (i : TypeInfo) (z : Value) (size bytes : Nat) (ht : P.underlying t = some (.slice e)) (hi : P.info? e = some i) (hz : i.zero = some z)
    (hsize : i.size = size) (hby : i.bytes = bytes) (hzs : z.cells.size = size) (hsz : 0 < size)
    (v : Value) (n : Nat) (xs : List Value) (hs : a.eval s = v) (hown : w.ownsRow base e size v n xs)
    (A : Option Addr) (m c : Nat) (news : List Value) (hx : a.eval x = .slice A m c) (hl : news.length = m * size) (hA : A = none → m = 0 ∧ c = 0) (hnews : ∀ ad, A = some ad → ∀ j u, news[j]? = some u → w.cell? (ad.add j) = some u) (h1 : ∀ u ∈ news, u.oneCell' = true)
    (h63 : n + m ≤ maxLen) (hbytes : (n + m) * bytes ≤ 140737488355328) (hbase : base ≤ w.heap.size)
    (h : ∀ v' w', w'.ownsRow base e size v' (n + m) (xs ++ news) → w.grownBy w' v.ownBlock → wpList P ops Q rest (a.put o.dst v') w') : wpList P ops Q (o :: rest) a w := by
  cases A with
  | none =>
    obtain ⟨rfl, rfl⟩ := hA rfl
    rw [Nat.zero_mul] at hl
    have hn := List.length_eq_zero_iff.1 hl
    subst hn
    refine wpList_append_own_none hgd s x t ho base e i size ht hi v n xs hs hown hx (h v w (by rw [List.append_nil]; exact hown) ⟨rfl, rfl, rfl, Nat.le_refl _, fun _ _ _ => rfl⟩)
  | some ad =>
    exact wpList_append_own w hgd s x t ho base e i z size bytes ht hi hz hsize hby hzs hsz v n xs hs hown ad m c news hx hl (hnews ad rfl) h1 h63 hbytes hbase fun v' w' h2 h3 _ => h v' w' h2 h3
theorem slB_news {W : World} {B : Nat} {A : Option Addr} {l : By} (h : SlB W B A l) (ad : Addr) (hA : A = some ad) (j : Nat) (u : Value) (hu : (cellsL l)[j]? = some u) : W.cell? (ad.add j) = some u := by
  obtain ⟨x, hx, rfl⟩ := cellsL_at hu
  obtain ⟨a, e, _, hc⟩ := h (fun e => by rw [e] at hx; cases hx)
  rw [hA] at e
  cases e
  exact hc j x hx
theorem callV2 {P : Program} {ops : Array Oper} {Q : Exit → Act → World → Prop} {md : Region.Mode} {S : World → Prop} {fuel : Nat} {listed : Array Bool} {a : Act} {w : World} (i j : Nat) {oi oj : Oper} (hi : ops[i]? = some oi) (hj : ops[j]? = some oj) (hr : Region.ready md ops listed = [i, j]) (hwi : Region.wanted oi (yielded ops a.tmps) = true) (hwj : Region.wanted oj (yielded ops a.tmps) = true)
    (h1 : ∀ K' : Act → World → Prop, Shut (∀ a w, S w → (S w → wpAnyH P md ops Q S fuel (listed.setIfInBounds i true) a w) → K' a w) → Oper.wp P oi a w K' Q)
    (h2 : ∀ K' : Act → World → Prop, Shut (∀ a w, S w → (S w → wpAnyH P md ops Q S fuel (listed.setIfInBounds j true) a w) → K' a w) → Oper.wp P oj a w K' Q) : wpAnyH P md ops Q S (fuel + 1) listed a w :=
  wpAnyH_ready hr (by simp) (AllReadyH.cons hi (fun K' hK => by rw [if_pos hwi]; exact h1 K' hK) (AllReadyH.cons hj (fun K' hK => by rw [if_pos hwj]; exact h2 K' hK) AllReadyH.nil))
theorem infoTP : (Try.prog.info? 47).map (fun i => (i.zero, i.size, i.bytes)) = some (some (.pointer none), 1, 8) := by kernel_rfl
theorem infoTR : (Try.prog.info? 54).map (fun i => (i.zero, i.size, i.bytes)) = some (some (.agg #[.slice none 0 0]), 1, 24) := by kernel_rfl
def PlEnd (w : World) (e : Ending) (w' : World) : Prop := e = .returned (.bool true) ∧ Below w.heap.size w w'
theorem nil_lit (w : World) (b : Nat) (i : LT Gb) (h : w.heap[b]? = some (.cells #[.pointer none] 50 (0, 0))) : @TreeV i w (.pointer (some ⟨b, 0, none⟩)) [] :=
  ⟨⟨_, .nil, rfl, .inr ⟨b, rfl, h⟩, trivial, rfl⟩, List.Pairwise.nil, (fun _ h => by cases h), Nat.zero_le _⟩
set_option maxRecDepth 100000 in
set_option maxHeartbeats 8000000 in
theorem plays_law (A : Option Addr) (c : Nat) (l : List OpP) (w : World) (hs : SlO w A l) (hl : l.length ≤ 9223372036854775807) :
    Calls Try.prog 4 #[.slice A l.length c] w (PlEnd w) := by
  have HS := Lib.hid hs
  have HG := Lib.hid (great_any A c l w hs hl)
  clear hs hl
  obtain ⟨w3, hw3⟩ : ∃ X, ((w.alloc (.cells #[.pointer none] 50)).alloc (.cells #[.pointer none, .pointer (some ⟨w.heap.size, 0, none⟩)] 47)).alloc (.cells #[.slice none 0 0, .slice none 0 0] 54) = X := ⟨_, rfl⟩
  have hb3 : Below w.heap.size w w3 := by rw [← hw3]; exact (((Below.refl _ _).alloc (Nat.le_refl _) _).alloc (by simp) _).alloc (by simp; omega) _
  have ht3 : w3.heap[w.heap.size]? = some (.cells #[.pointer none] 50 (0, 0)) := by
    rw [← hw3]
    exact (Below.heap_alloc _ _ _ (by simp; omega)).trans ((Below.heap_alloc _ _ _ (by simp)).trans (heap_alloc_new w _))
  have hr3 : w3.ownsRow w.heap.size 47 1 (.slice (some ⟨w.heap.size + 1, 0, none⟩) 2 2) 2 [.pointer none, .pointer (some ⟨w.heap.size, 0, none⟩)] := by
    rw [← hw3]
    have := World.ownsRow_lit (base := w.heap.size) (e := 47) (size := 1) (w.alloc (.cells #[.pointer none] 50)) #[.pointer none, .pointer (some ⟨w.heap.size, 0, none⟩)] 2 (by simp) (by decide) rfl
    rw [World.size_alloc] at this
    exact World.ownsRow.alloc this _
  have hr4 : w3.ownsRow w.heap.size 54 1 (.slice (some ⟨w.heap.size + 2, 0, none⟩) 2 2) 2 [.slice none 0 0, .slice none 0 0] := by
    rw [← hw3]
    have := World.ownsRow_lit (base := w.heap.size) (e := 54) (size := 1) ((w.alloc (.cells #[.pointer none] 50)).alloc (.cells #[.pointer none, .pointer (some ⟨w.heap.size, 0, none⟩)] 47)) #[.slice none 0 0, .slice none 0 0] 2 (by simp; omega) (by decide) rfl
    rw [World.size_alloc, World.size_alloc] at this
    exact this
  have HB3 := Lib.hid hb3
  have HR3 := Lib.hid hr3
  have HR4 := Lib.hid hr4
  have HT3 := Lib.hid ht3
  clear hb3 ht3 hr3 hr4
  go_enter Try.func4, Try.ntmps4
  go_wp2_with fail
  refine HG.out.mono ?_
  rintro e w' ⟨gr, rfl, rfl, hgr⟩
  cases gr with
  | true =>
    have HF : Hid (PlEnd w (.returned (.bool true)) w) := ⟨rfl, Below.refl _ _⟩
    clear hgr
    go_wp2
    go_ret
    exact HF.out
  | false =>
  have HGR := Lib.hid (hgr rfl)
  clear hgr HG
  go_wp2_with fail
  try rw [hw3]
  clear hw3
  go_loopg [3, 4, 30] l.length (fun gk s3 s4 x wr => ∃ (j n : Nat) (ts : List TrP) (A3 A4 : Option Addr) (c3 c4 : Nat), x = .int .i64 (j : Nat) ∧ s3 = .slice A3 n c3 ∧ s4 = .slice A4 n c4 ∧ j + gk = l.length ∧ Hid (ts.length = n) ∧ Hid (2 ≤ n ∧ n ≤ j + 2) ∧ Hid (Below w.heap.size w wr) ∧
    Hid (wr.ownsRow w.heap.size 47 1 (.slice A3 n c3) n (ts.map cellP)) ∧ Hid (wr.ownsRow w.heap.size 54 1 (.slice A4 n c4) n (ts.map cellU)) ∧ Hid (∀ t ∈ ts, OkG 0 0 wr t ∧ t.L.length ≤ j))
  case atStart =>
    refine ⟨0, 2, [⟨none, none, 0, []⟩, ⟨some ⟨w.heap.size, 0, none⟩, none, 0, []⟩], _, _, 2, 2, rfl, rfl, rfl, by omega, rfl, ⟨Nat.le_refl _, Nat.le_refl _⟩, HB3.out, HR3.out, HR4.out, fun t ht => ?_⟩
    rcases List.mem_cons.1 ht with rfl | ht
    · exact ⟨⟨@treeV_nil (GbI 0 0) w3, fun h => absurd rfl h⟩, Nat.le_refl _⟩
    · rw [List.mem_singleton.1 ht]
      exact ⟨⟨nil_lit _ _ _ HT3.out, fun h => absurd rfl h⟩, Nat.le_refl _⟩
  case round =>
    obtain ⟨j, n, ts, A3, A4, c3, c4, rfl, rfl, rfl, hj, HN, HNN, HB, HRT, HRU, HOK⟩ := hrel
    cases gk with
    | zero =>
      have hjz : ¬ ((j : Int) < (l.length : Int)) := by omega
      have hjz' : decide ((j : Int) < (l.length : Int)) = false := decide_eq_false hjz
      have HLN : Hid (l.length ≤ 100) := HGR.out.1
      as_aux_lemma =>
        have HJL : Hid (j ≤ 100) := by show _ ≤ _; have := HGR.out.1; omega
        obtain ⟨wo, hwo⟩ : ∃ X, X = wr := ⟨wr, rfl⟩
        subst hwo
        go_wp2_with fail
        clear hjz hjz'
        go_loopg [201] n (fun gk y wr => ∃ (q : Nat), y = .int .i64 (q : Nat) ∧ q + gk = n ∧ Hid (Below wo.heap.size wo wr))
        case atStart => exact ⟨0, rfl, by omega, Below.refl _ _⟩
        case round =>
          obtain ⟨q, rfl, hq, HBQ⟩ := hrel
          cases gk with
          | zero =>
            have hqz : ¬ ((q : Int) < (n : Int)) := by omega
            have hqz' : decide ((q : Int) < (n : Int)) = false := decide_eq_false hqz
            have HF : Hid (PlEnd w (.returned (.bool true)) wr) := ⟨rfl, HB.out.trans (HBQ.out.mono HB.out.size)⟩
            go_wp2
            go_ret
            exact HF.out
          | succ gk =>
            have hqz : ((q : Int) < (n : Int)) := by omega
            have hqz' : decide ((q : Int) < (n : Int)) = true := decide_eq_true hqz
            have hq0 : (0 : Int) ≤ (q : Int) := by omega
            obtain ⟨t, ht⟩ : ∃ t, ts[q]? = some t := ⟨_, List.getElem?_eq_getElem (by have := HN.out; omega)⟩
            have hok := HOK.out t (List.mem_of_getElem? ht)
            obtain ⟨h3, rfl, hh3⟩ := row_at HRT.out (k := q) (x := cellP t) (by rw [List.getElem?_map, ht]; rfl)
            obtain ⟨h4, rfl, hh4⟩ := row_at HRU.out (k := q) (x := cellU t) (by rw [List.getElem?_map, ht]; rfl)
            have HC3 : Hid (∀ X, Below wo.heap.size wo X → X.cell? ⟨h3, q, none⟩ = some (.pointer t.p)) := fun X hX => (hX.cell (p := ⟨h3, q, none⟩) (cell_lt hh3)).trans hh3
            have HC4 : Hid (∀ X, Below wo.heap.size wo X → X.cell? ⟨h4, q, none⟩ = some (.slice t.A t.L.length t.c)) := fun X hX => (hX.cell (p := ⟨h4, q, none⟩) (cell_lt hh4)).trans hh4
            have HRG : Hid (∀ X, Below wo.heap.size wo X → Calls Try.prog 23 #[.pointer t.p, .slice none 0 0, .slice none 0 0, .int .i64 1000] X fun e w' => ∃ v' qs, e = .returned v' ∧ OwnQ w' X.heap.size v' qs ∧ qs.map (·.1) = t.L ∧ Below X.heap.size X w') := fun X hX => by
              have h := @rangeM_any (GbI 0 0) (.pointer t.p) t.L none none 0 0 [] [] 1000 X (hok.1.below hX).tv (fun h => absurd rfl h) (fun h => absurd rfl h)
              rw [fromL_nil, rgL_all (by have := hok.2; have := HJL.out; omega)] at h
              exact h
            have HLE : Hid (∀ X, Below wo.heap.size wo X → Calls Try.prog 24 #[.pointer t.p] X fun e w' => e = .returned (.int .i64 (t.L.length : Nat)) ∧ X = w') := fun X hX => @len_any (GbI 0 0) (.pointer t.p) t.L X (hok.1.below hX).tv
            have HSR : Hid (∀ X, Below wo.heap.size wo X → SlR X t.A t.L) := fun X hX => (hok.1.below hX).sr
            have HLT : Hid (t.L.length ≤ 1000000) := by show _ ≤ _; have := hok.2; have := HJL.out; omega
            have hnb : n ≤ 200 := by have := HNN.out.2; have := HJL.out; omega
            have HS0 := Lib.hid (HBQ.out.trans ((qb_dn (Below.refl wr.heap.size wr) 1).mono HBQ.out.size))
            clear ht hok hh3 hh4
            go_wp2_with fail
            obtain ⟨wz, hwz⟩ : ∃ X, wr.drew = X := ⟨_, rfl⟩
            refine wp_region_held_drew (S := fun X => Below wo.heap.size wo X) (by kernel_rfl) HS0.out (fun hHeld => ?_)
            rw [hwz] at hHeld ⊢
            clear hwz HS0
            refine takeV 0 (some 204) ((.slice (some ⟨h3, 0, none⟩) n c3)) rfl rfl (by kernel_rfl) (by kernel_rfl) (by kernel_rfl) (fun _ _ _ h => h) (by rfl) (by (intro _w _hSw; (try dsimp only at _hSw); go_simp)) (by assumption) ?_
            simp only [Act.put, List.setIfInBounds_toArray, List.set_cons_zero, List.set_cons_succ]
            refine takeV 1 (some 205) ((.int .i64 (q : Nat))) rfl rfl (by kernel_rfl) (by kernel_rfl) (by kernel_rfl) (fun _ _ _ h => h) (by rfl) (by (intro _w _hSw; (try dsimp only at _hSw); go_simp)) (by assumption) ?_
            simp only [Act.put, List.setIfInBounds_toArray, List.set_cons_zero, List.set_cons_succ]
            refine takeV 2 (some 206) ((.pointer (some ⟨h3, q, none⟩))) rfl rfl (by kernel_rfl) (by kernel_rfl) (by kernel_rfl) (fun _ _ _ h => h) (by rfl) (by (intro _w _hSw; (try dsimp only at _hSw); go_simp)) (by assumption) ?_
            simp only [Act.put, List.setIfInBounds_toArray, List.set_cons_zero, List.set_cons_succ]
            refine takeV 3 (some 207) ((.pointer t.p)) rfl rfl (by kernel_rfl) (by kernel_rfl) (by kernel_rfl) (fun _ _ _ h => h) (by rfl) (by (intro _w hSw; have q0 := HC3.out _ hSw; clear hSw; go_simp)) (by assumption) ?_
            simp only [Act.put, List.setIfInBounds_toArray, List.set_cons_zero, List.set_cons_succ]
            refine takeV 5 (some 209) ((.slice (some ⟨h4, 0, none⟩) n c4)) rfl rfl (by kernel_rfl) (by kernel_rfl) (by kernel_rfl) (fun _ _ _ h => h) (by rfl) (by (intro _w _hSw; (try dsimp only at _hSw); go_simp)) (by assumption) ?_
            simp only [Act.put, List.setIfInBounds_toArray, List.set_cons_zero, List.set_cons_succ]
            refine takeV 6 (some 210) ((.int .i64 (q : Nat))) rfl rfl (by kernel_rfl) (by kernel_rfl) (by kernel_rfl) (fun _ _ _ h => h) (by rfl) (by (intro _w _hSw; (try dsimp only at _hSw); go_simp)) (by assumption) ?_
            simp only [Act.put, List.setIfInBounds_toArray, List.set_cons_zero, List.set_cons_succ]
            refine takeV 7 (some 211) ((.pointer (some ⟨h4, q, none⟩))) rfl rfl (by kernel_rfl) (by kernel_rfl) (by kernel_rfl) (fun _ _ _ h => h) (by rfl) (by (intro _w _hSw; (try dsimp only at _hSw); go_simp)) (by assumption) ?_
            simp only [Act.put, List.setIfInBounds_toArray, List.set_cons_zero, List.set_cons_succ]
            refine takeV 8 (some 212) ((.pointer (some ⟨h4, q, none⟩))) rfl rfl (by kernel_rfl) (by kernel_rfl) (by kernel_rfl) (fun _ _ _ h => h) (by rfl) (by (intro _w _hSw; (try dsimp only at _hSw); go_simp)) (by assumption) ?_
            simp only [Act.put, List.setIfInBounds_toArray, List.set_cons_zero, List.set_cons_succ]
            refine takeV 9 (some 213) ((.slice t.A t.L.length t.c)) rfl rfl (by kernel_rfl) (by kernel_rfl) (by kernel_rfl) (fun _ _ _ h => h) (by rfl) (by (intro _w hSw; have q0 := HC4.out _ hSw; clear hSw; go_simp)) (by assumption) ?_
            simp only [Act.put, List.setIfInBounds_toArray, List.set_cons_zero, List.set_cons_succ]
            refine callV 4 rfl (by kernel_rfl) (by rfl) (fun K hK => ?_)
            go_simp
            refine (HRG.out _ hHeld).mono ?_
            rintro e wf ⟨vf, qs, rfl, ho, hqm, hbf⟩
            have hnq := ownQ_len ho hqm
            obtain ⟨A9, c9, rfl⟩ := ho.form
            rw [hnq] at ho ⊢
            have HO := Lib.hid ho
            have HQ := Lib.hid hqm
            have HLZ := Lib.hid hHeld.size
            have HS9 := Lib.hid (HSR.out wf (hHeld.trans (hbf.mono hHeld.size)))
            refine hK.out _ _ (hHeld.trans (hbf.mono hHeld.size)) (fun hHeld2 => ?_)
            clear ho hqm hnq hbf
            clear hK K hHeld
            have hHeld := hHeld2
            clear hHeld2
            try simp only [Act.put, List.setIfInBounds_toArray, List.set_cons_zero, List.set_cons_succ]
            refine callV 10 rfl (by kernel_rfl) (by rfl) (fun K hK => ?_)
            go_simp
            refine (same_any A9 t.A c9 t.c t.L.length _ qs t.L wf HO.out HQ.out rfl HS9.out HLT.out).mono ?_
            rintro e wh ⟨rfl, hkh⟩
            refine hK.out _ _ (hHeld.trans (hkh.low.mono HLZ.out)) (fun hHeld2 => ?_)
            clear hkh HO HS9 HQ HLZ
            clear hK K hHeld
            have hHeld := hHeld2
            clear hHeld2
            try simp only [Act.put, List.setIfInBounds_toArray, List.set_cons_zero, List.set_cons_succ]
            refine takeV 11 (some 215) ((.bool false)) rfl rfl (by kernel_rfl) (by kernel_rfl) (by kernel_rfl) (fun _ _ _ h => h) (by rfl) (by (intro _w _hSw; (try dsimp only at _hSw); go_simp)) (by assumption) ?_
            simp only [Act.put, List.setIfInBounds_toArray, List.set_cons_zero, List.set_cons_succ]
            refine takeV 12 (some 216) ((.bool false)) rfl rfl (by kernel_rfl) (by kernel_rfl) (by kernel_rfl) (fun _ _ _ h => h) (by rfl) (by (intro _w _hSw; (try dsimp only at _hSw); go_simp)) (by assumption) ?_
            simp only [Act.put, List.setIfInBounds_toArray, List.set_cons_zero, List.set_cons_succ]
            refine takeV 13 (some 217) ((.slice (some ⟨h3, 0, none⟩) n c3)) rfl rfl (by kernel_rfl) (by kernel_rfl) (by kernel_rfl) (fun _ _ _ h => h) (by rfl) (by (intro _w _hSw; (try dsimp only at _hSw); go_simp)) (by assumption) ?_
            simp only [Act.put, List.setIfInBounds_toArray, List.set_cons_zero, List.set_cons_succ]
            refine takeV 14 (some 218) ((.int .i64 (q : Nat))) rfl rfl (by kernel_rfl) (by kernel_rfl) (by kernel_rfl) (fun _ _ _ h => h) (by rfl) (by (intro _w _hSw; (try dsimp only at _hSw); go_simp)) (by assumption) ?_
            simp only [Act.put, List.setIfInBounds_toArray, List.set_cons_zero, List.set_cons_succ]
            refine takeV 15 (some 219) ((.pointer (some ⟨h3, q, none⟩))) rfl rfl (by kernel_rfl) (by kernel_rfl) (by kernel_rfl) (fun _ _ _ h => h) (by rfl) (by (intro _w _hSw; (try dsimp only at _hSw); go_simp)) (by assumption) ?_
            simp only [Act.put, List.setIfInBounds_toArray, List.set_cons_zero, List.set_cons_succ]
            refine takeV 16 (some 220) ((.pointer t.p)) rfl rfl (by kernel_rfl) (by kernel_rfl) (by kernel_rfl) (fun _ _ _ h => h) (by rfl) (by (intro _w hSw; have q0 := HC3.out _ hSw; clear hSw; go_simp)) (by assumption) ?_
            simp only [Act.put, List.setIfInBounds_toArray, List.set_cons_zero, List.set_cons_succ]
            refine takeV 18 (some 222) ((.slice (some ⟨h4, 0, none⟩) n c4)) rfl rfl (by kernel_rfl) (by kernel_rfl) (by kernel_rfl) (fun _ _ _ h => h) (by rfl) (by (intro _w _hSw; (try dsimp only at _hSw); go_simp)) (by assumption) ?_
            simp only [Act.put, List.setIfInBounds_toArray, List.set_cons_zero, List.set_cons_succ]
            refine takeV 19 (some 223) ((.int .i64 (q : Nat))) rfl rfl (by kernel_rfl) (by kernel_rfl) (by kernel_rfl) (fun _ _ _ h => h) (by rfl) (by (intro _w _hSw; (try dsimp only at _hSw); go_simp)) (by assumption) ?_
            simp only [Act.put, List.setIfInBounds_toArray, List.set_cons_zero, List.set_cons_succ]
            refine takeV 20 (some 224) ((.pointer (some ⟨h4, q, none⟩))) rfl rfl (by kernel_rfl) (by kernel_rfl) (by kernel_rfl) (fun _ _ _ h => h) (by rfl) (by (intro _w _hSw; (try dsimp only at _hSw); go_simp)) (by assumption) ?_
            simp only [Act.put, List.setIfInBounds_toArray, List.set_cons_zero, List.set_cons_succ]
            refine takeV 21 (some 225) ((.pointer (some ⟨h4, q, none⟩))) rfl rfl (by kernel_rfl) (by kernel_rfl) (by kernel_rfl) (fun _ _ _ h => h) (by rfl) (by (intro _w _hSw; (try dsimp only at _hSw); go_simp)) (by assumption) ?_
            simp only [Act.put, List.setIfInBounds_toArray, List.set_cons_zero, List.set_cons_succ]
            refine takeV 22 (some 226) ((.slice t.A t.L.length t.c)) rfl rfl (by kernel_rfl) (by kernel_rfl) (by kernel_rfl) (fun _ _ _ h => h) (by rfl) (by (intro _w hSw; have q0 := HC4.out _ hSw; clear hSw; go_simp)) (by assumption) ?_
            simp only [Act.put, List.setIfInBounds_toArray, List.set_cons_zero, List.set_cons_succ]
            refine takeV 23 (some 227) ((.int .i64 (t.L.length : Nat))) rfl rfl (by kernel_rfl) (by kernel_rfl) (by kernel_rfl) (fun _ _ _ h => h) (by rfl) (by (intro _w _hSw; (try dsimp only at _hSw); go_simp)) (by assumption) ?_
            simp only [Act.put, List.setIfInBounds_toArray, List.set_cons_zero, List.set_cons_succ]
            refine callV 17 rfl (by kernel_rfl) (by rfl) (fun K hK => ?_)
            go_simp
            refine (HLE.out _ hHeld).mono ?_
            rintro e w' ⟨rfl, rfl⟩
            refine hK.out _ _ hHeld (fun hHeld2 => ?_)
            clear hK K hHeld
            have hHeld := hHeld2
            clear hHeld2
            try simp only [Act.put, List.setIfInBounds_toArray, List.set_cons_zero, List.set_cons_succ]
            refine takeV 24 (some 228) ((.bool false)) rfl rfl (by kernel_rfl) (by kernel_rfl) (by kernel_rfl) (fun _ _ _ h => h) (by rfl) (by (intro _w _hSw; (try dsimp only at _hSw); go_simp)) (by assumption) ?_
            simp only [Act.put, List.setIfInBounds_toArray, List.set_cons_zero, List.set_cons_succ]
            refine takeV 25 (some 229) ((.bool false)) rfl rfl (by kernel_rfl) (by kernel_rfl) (by kernel_rfl) (fun _ _ _ h => h) (by rfl) (by (intro _w _hSw; (try dsimp only at _hSw); go_simp)) (by assumption) ?_
            simp only [Act.put, List.setIfInBounds_toArray, List.set_cons_zero, List.set_cons_succ]
            refine wpAnyH_done (by kernel_rfl) ?_ _
            have HBZ := Lib.hid hHeld
            clear hHeld
            go_wp2
            go_roundg gk
            case measure => omega
            case rel => exact ⟨q + 1, by go_num, by omega, HBZ.out⟩
    | succ gk0 =>
      have hjz : ((j : Int) < (l.length : Int)) := by omega
      have hjz' : decide ((j : Int) < (l.length : Int)) = true := decide_eq_true hjz
      have hj0 : (0 : Int) ≤ (j : Int) := by omega
      have hjn : j < l.length := by omega
      obtain ⟨ob, oo, rfl, hat⟩ := HS.out (fun e => by rw [e] at hjn; simp at hjn)
      have hop := hat j _ (List.getElem?_eq_getElem hjn)
      obtain ⟨x, hx⟩ : ∃ x, l[j] = x := ⟨_, rfl⟩
      have HXM : Hid (x.k.length ≤ 5000 ∧ x.v.length ≤ 70000 ∧ x.t.length ≤ 5000) := HGR.out.2 x (by rw [← hx]; exact List.getElem_mem hjn)
      have HLN : Hid (l.length ≤ 100) := HGR.out.1
      rw [hx] at hop
      obtain ⟨X1, k1, q2, hks, hkn⟩ := hop.c2
      obtain ⟨X2, k2, q3, hvs, hvn⟩ := hop.c3
      obtain ⟨X3, k3, q4, hts, htn⟩ := hop.c4
      have up : ∀ {i : Nat} {v : Value}, w.cell? ⟨ob, i, none⟩ = some v → wr.cell? ⟨ob, i, none⟩ = some v := fun h => (HB.out.cell (p := ⟨ob, _, none⟩) hop.lt).trans h
      have q0 := up hop.c0
      have q1 := up hop.c1
      replace q2 := up q2
      replace q3 := up q3
      replace q4 := up q4
      have q5 := up hop.c5
      clear up
      obtain ⟨w1, hw1⟩ : ∃ X, wr.alloc (.cells #[.int .i64 x.kind, .int .u16 x.fr, .slice X1 x.k.length k1, .slice X2 x.v.length k2, .slice X3 x.t.length k3, .int .i64 x.n] 59) = X := ⟨_, rfl⟩
      have hb1 : Below wr.heap.size wr w1 := by rw [← hw1]; exact (Below.refl _ _).alloc (Nat.le_refl _) _
      have hx1 : w1.heap[wr.heap.size]? = some (.cells #[.int .i64 x.kind, .int .u16 x.fr, .slice X1 x.k.length k1, .slice X2 x.v.length k2, .slice X3 x.t.length k3, .int .i64 x.n] 59 (0, 0)) := by rw [← hw1]; exact heap_alloc_new wr _
      have HX1 := Lib.hid hx1
      have z1 : w1.cell? ⟨wr.heap.size, 1, none⟩ = some (.int .u16 x.fr) := by simp [World.cell?, hx1]
      have HKS := Lib.hid (fun X (hX : Below w.heap.size w X) => slB_up hks hX)
      have HVS := Lib.hid (fun X (hX : Below w.heap.size w X) => slB_up hvs hX)
      have HTS := Lib.hid (fun X (hX : Below w.heap.size w X) => slB_up hts hX)
      have HKN := Lib.hid hkn
      have HVN := Lib.hid hvn
      have HXN : Hid (-9223372036854775808 ≤ x.n ∧ x.n ≤ 9223372036854775807) := ⟨hop.n0, hop.n1⟩
      obtain ⟨fr, hfr⟩ : ∃ fr : Nat, x.fr = (fr : Int) := ⟨x.fr.toNat, by have := hop.f0; omega⟩
      have hfr1 : fr ≤ 65535 := by have := hop.f1; omega
      obtain ⟨k, hk⟩ : ∃ k, fr % n = k := ⟨_, rfl⟩
      have hkn2 : k < n := by rw [← hk]; exact Nat.mod_lt _ (by have := HNN.out.1; omega)
      have hmod : Int.tmod (fr : Int) (n : Int) = (k : Int) := by rw [← hk]; rfl
      have hn0 : ¬ (n : Int) = 0 := by have := HNN.out.1; omega
      have hn0' : ((n : Int) == 0) = false := beq_eq_false_iff_ne.2 hn0
      have hwf : IntKind.i64.wrap (fr : Int) = (fr : Int) := IntWalk.i64_in _ (by omega)
      have hwk : IntKind.i64.wrap (k : Int) = (k : Int) := IntWalk.i64_in _ (by have := HNN.out.2; have := HLN.out; omega)
      rw [hfr] at q1 z1 hw1 HX1
      have HB1 := Lib.hid hb1
      clear hat hop hx hks hvs hts hkn hvn htn hb1 hx1 hfr hk
      go_wp2_with fail
      try rw [hw1]
      obtain ⟨tk, htk⟩ : ∃ tk, ts[k]? = some tk := ⟨_, List.getElem?_eq_getElem (by rw [HN.out]; exact hkn2)⟩
      have HTK := Lib.hid (HOK.out tk (List.mem_of_getElem? htk))
      have HTKM := Lib.hid (List.mem_of_getElem? htk)
      obtain ⟨g3, rfl, hg3⟩ := row_at HRT.out (k := k) (x := cellP tk) (by rw [List.getElem?_map, htk]; rfl)
      obtain ⟨g4, rfl, hg4⟩ := row_at HRU.out (k := k) (x := cellU tk) (by rw [List.getElem?_map, htk]; rfl)
      have hkz : (k : Int) < (n : Int) := by omega
      have hk0 : (0 : Int) ≤ (k : Int) := by omega
      have HG3 : Hid (∀ X, Below wr.heap.size wr X → X.cell? ⟨g3, k, none⟩ = some (.pointer tk.p)) := fun X hX => (hX.cell (p := ⟨g3, k, none⟩) (cell_lt hg3)).trans hg3
      have HG4 : Hid (∀ X, Below wr.heap.size wr X → X.cell? ⟨g4, k, none⟩ = some (.slice tk.A tk.L.length tk.c)) := fun X hX => (hX.cell (p := ⟨g4, k, none⟩) (cell_lt hg4)).trans hg4
      have HS0 := Lib.hid (HB1.out.trans (qb_dn (Below.refl wr.heap.size w1) 1))
      obtain ⟨wd, hwd⟩ : ∃ X, w1.drew = X := ⟨_, rfl⟩
      clear htk hg3 hg4 hw1 q0 q1 q2 q3 q4 q5 z1 hmod hn0 hn0' hwf hwk
      refine wp_region_held_drew (S := fun X => Below wr.heap.size wr X) (by kernel_rfl) HS0.out (fun hHeld => ?_)
      have HXD : Hid (wd.heap[wr.heap.size]? = some (.cells #[.int .i64 x.kind, .int .u16 (fr : Int), .slice X1 x.k.length k1, .slice X2 x.v.length k2, .slice X3 x.t.length k3, .int .i64 x.n] 59 (0, 0))) := by show _ = _; rw [← hwd]; exact HX1.out
      rw [hwd] at hHeld ⊢
      clear hwd HS0 HX1
      refine takeV 0 (some 43) ((.slice (some ⟨g3, 0, none⟩) n c3)) rfl rfl (by kernel_rfl) (by kernel_rfl) (by kernel_rfl) (fun _ _ _ h => h) (by rfl) (by (intro _w _hSw; (try dsimp only at _hSw); go_simp)) (by assumption) ?_
      simp only [Act.put, List.setIfInBounds_toArray, List.set_cons_zero, List.set_cons_succ]
      refine takeV 1 (some 44) ((.int .i64 (k : Nat))) rfl rfl (by kernel_rfl) (by kernel_rfl) (by kernel_rfl) (fun _ _ _ h => h) (by rfl) (by (intro _w _hSw; (try dsimp only at _hSw); go_simp)) (by assumption) ?_
      simp only [Act.put, List.setIfInBounds_toArray, List.set_cons_zero, List.set_cons_succ]
      refine takeV 2 (some 45) ((.pointer (some ⟨g3, k, none⟩))) rfl rfl (by kernel_rfl) (by kernel_rfl) (by kernel_rfl) (fun _ _ _ h => h) (by rfl) (by (intro _w _hSw; (try dsimp only at _hSw); go_simp)) (by assumption) ?_
      simp only [Act.put, List.setIfInBounds_toArray, List.set_cons_zero, List.set_cons_succ]
      refine takeV 3 (some 46) ((.pointer tk.p)) rfl rfl (by kernel_rfl) (by kernel_rfl) (by kernel_rfl) (fun _ _ _ h => h) (by rfl) (by (intro _w hSw; have q0 := HG3.out _ hSw; clear hSw; go_simp)) (by assumption) ?_
      simp only [Act.put, List.setIfInBounds_toArray, List.set_cons_zero, List.set_cons_succ]
      refine takeV 4 (some 47) ((.slice (some ⟨g4, 0, none⟩) n c4)) rfl rfl (by kernel_rfl) (by kernel_rfl) (by kernel_rfl) (fun _ _ _ h => h) (by rfl) (by (intro _w _hSw; (try dsimp only at _hSw); go_simp)) (by assumption) ?_
      simp only [Act.put, List.setIfInBounds_toArray, List.set_cons_zero, List.set_cons_succ]
      refine takeV 5 (some 48) ((.int .i64 (k : Nat))) rfl rfl (by kernel_rfl) (by kernel_rfl) (by kernel_rfl) (fun _ _ _ h => h) (by rfl) (by (intro _w _hSw; (try dsimp only at _hSw); go_simp)) (by assumption) ?_
      simp only [Act.put, List.setIfInBounds_toArray, List.set_cons_zero, List.set_cons_succ]
      refine takeV 6 (some 49) ((.pointer (some ⟨g4, k, none⟩))) rfl rfl (by kernel_rfl) (by kernel_rfl) (by kernel_rfl) (fun _ _ _ h => h) (by rfl) (by (intro _w _hSw; (try dsimp only at _hSw); go_simp)) (by assumption) ?_
      simp only [Act.put, List.setIfInBounds_toArray, List.set_cons_zero, List.set_cons_succ]
      refine takeV 7 (some 50) ((.agg #[.slice tk.A tk.L.length tk.c])) rfl rfl (by kernel_rfl) (by kernel_rfl) (by kernel_rfl) (fun _ _ _ h => h) (by rfl) (by (intro _w hSw; have q0 := HG4.out _ hSw; clear hSw; go_simp)) (by assumption) ?_
      simp only [Act.put, List.setIfInBounds_toArray, List.set_cons_zero, List.set_cons_succ]
      refine callV 8 rfl (by kernel_rfl) (by rfl) (fun K hK => ?_)
      go_simp
      refine hK.out _ _ (hHeld.alloc hHeld.size _) (fun hHeld1 => ?_)
      clear hK K
      try simp only [Act.put, List.setIfInBounds_toArray, List.set_cons_zero, List.set_cons_succ]
      refine takeV 9 (some 8) ((.pointer tk.p)) rfl rfl (by kernel_rfl) (by kernel_rfl) (by kernel_rfl) (fun _ _ _ h => h) (by rfl) (by (intro _w _hSw; (try dsimp only at _hSw); go_simp)) (by assumption) ?_
      simp only [Act.put, List.setIfInBounds_toArray, List.set_cons_zero, List.set_cons_succ]
      refine callV 10 rfl (by kernel_rfl) (by rfl) (fun K hK => ?_)
      go_simp
      refine hK.out _ _ (hHeld.alloc hHeld.size _) (fun hHeld2 => ?_)
      have HLD := Lib.hid hHeld.size
      clear hK K hHeld hHeld1
      try simp only [Act.put, List.setIfInBounds_toArray, List.set_cons_zero, List.set_cons_succ]
      refine wpAnyH_done (by kernel_rfl) ?_ _
      obtain ⟨w2, hw2⟩ : ∃ X, wd.alloc (.cells #[.slice tk.A tk.L.length tk.c] 54) = X := ⟨_, rfl⟩
      have HBU : Hid (Boxed w2 wd.heap.size 54 (cellU tk)) := by show Boxed _ _ _ _; rw [← hw2]; exact Boxed.new wd _ _
      have HBX : Hid (w2.heap[wr.heap.size]? = some (.cells #[.int .i64 x.kind, .int .u16 (fr : Int), .slice X1 x.k.length k1, .slice X2 x.v.length k2, .slice X3 x.t.length k3, .int .i64 x.n] 59 (0, 0))) := by show _ = _; rw [← hw2]; exact (Below.heap_alloc wd _ _ (Array.getElem?_eq_some_iff.1 HXD.out).1).trans HXD.out
      rw [hw2] at hHeld2 ⊢
      have HB2 := Lib.hid hHeld2
      have HBW := Lib.hid (HB.out.trans (hHeld2.mono HB.out.size))
      clear hHeld2 hw2 HXD HB1 HG3 HG4
      obtain ⟨i0, hi, hz0, hz1, hz2⟩ := info_parts info8
      have hmx : 200000 ≤ maxLen := by decide
      obtain ⟨wa, hwa⟩ : ∃ X, w2.alloc (.cells #[] 5) = X := ⟨_, rfl⟩
      have hba : Below w2.heap.size w2 wa := by rw [← hwa]; exact (Below.refl _ _).alloc (Nat.le_refl _) _
      have HOA : Hid (OwnB wa w2.heap.size (.slice (some ⟨w2.heap.size, 0, none⟩) 0 0) []) := by show OwnB _ _ _ _; rw [← hwa]; exact World.ownsRow_lit w2 #[] 0 (Nat.le_refl _) (by decide) rfl
      have HBA := Lib.hid hba
      have p2 : wa.cell? ⟨wr.heap.size, 2, none⟩ = some (.slice X1 x.k.length k1) := by
        rw [hba.cell (p := ⟨wr.heap.size, 2, none⟩) (Array.getElem?_eq_some_iff.1 HBX.out).1]
        simp [World.cell?, HBX.out]
      have HSA : Hid (SlB wa wa.heap.size X1 x.k) := HKS.out wa (HBW.out.trans (hba.mono HBW.out.size))
      have nilB : ∀ {W : World} {A : Option Addr} {l : By}, SlB W W.heap.size A l → A = none → l.length = 0 := fun h e => by
        rename_i W A l
        by_cases hl : l = []
        · rw [hl]; rfl
        · obtain ⟨a, e2, _⟩ := h hl
          rw [e] at e2
          cases e2
      have HNA : Hid (X1 = none → x.k.length = 0 ∧ k1 = 0) := fun e => ⟨nilB HSA.out e, HKN.out e⟩
      have HLA : Hid (0 + x.k.length ≤ maxLen ∧ (0 + x.k.length) * 1 ≤ 140737488355328 ∧ w2.heap.size ≤ wa.heap.size) := ⟨by have := HXM.out.1; omega, by have := HXM.out.1; omega, hba.size⟩
      have HVX : Hid (∀ X, Below w2.heap.size w2 X → SlB X X.heap.size X2 x.v ∧ X.cell? ⟨wr.heap.size, 3, none⟩ = some (.slice X2 x.v.length k2)) := fun X hX => ⟨HVS.out X (HBW.out.trans (hX.mono HBW.out.size)), by
        rw [hX.cell (p := ⟨wr.heap.size, 3, none⟩) (Array.getElem?_eq_some_iff.1 HBX.out).1]
        simp [World.cell?, HBX.out]⟩
      have HNV : Hid (X2 = none → x.v.length = 0 ∧ k2 = 0) := fun e => ⟨nilB (HVX.out w2 (Below.refl _ _)).1 e, HVN.out e⟩
      have HLV : Hid (x.v.length ≤ maxLen ∧ 0 + x.v.length ≤ maxLen ∧ (0 + x.v.length) * 1 ≤ 140737488355328) := ⟨by have := HXM.out.2.1; omega, by have := HXM.out.2.1; omega, by have := HXM.out.2.1; omega⟩
      clear hba nilB hmx
      go_upto_region 13 with (at_builtin; first
        | (refine wpList_append_anyB rfl _ _ 57 rfl w2.heap.size 5 i0 (.int .u8 0) 1 1 Try.underlying57 hi hz0 hz1 hz2 rfl (by decide) (.slice (some ⟨w2.heap.size, 0, none⟩) 0 0) 0 [] rfl HOA.out X1 x.k.length k1 (cellsL x.k) rfl (by rw [cellsL_len, Nat.mul_one]) HNA.out (fun ad e j u h => slB_news HSA.out ad e j u h) (cellsL_one _) HLA.out.1 HLA.out.2.1 HLA.out.2.2 ?_
           intro v5 w5 hown5 hg5
           have ho5 : OwnB w5 w2.heap.size v5 x.k := (by rw [Nat.zero_add, List.nil_append] at hown5; exact hown5)
           have hb5 : Below w2.heap.size w2 w5 := HBA.out.grown hg5 HBA.out.size (fun k hk => (World.ownsRow.lt HOA.out k hk).1)
           have HO5 := Lib.hid ho5
           have HB5 := Lib.hid hb5
           obtain ⟨A5, c5, hv5⟩ := row_form ho5
           subst hv5
           obtain ⟨wb, hwb⟩ : ∃ X, w5.alloc (.cells #[] 5) = X := ⟨_, rfl⟩
           have hbb : Below w5.heap.size w5 wb := (by rw [← hwb]; exact (Below.refl _ _).alloc (Nat.le_refl _) _)
           have HOB : Hid (OwnB wb w5.heap.size (.slice (some ⟨w5.heap.size, 0, none⟩) 0 0) []) := (by show OwnB _ _ _ _; rw [← hwb]; exact World.ownsRow_lit w5 #[] 0 (Nat.le_refl _) (by decide) rfl)
           have HBB := Lib.hid hbb
           have HV5 := Lib.hid (HVX.out wb (hb5.trans (hbb.mono hb5.size)))
           have p3 := HV5.out.2
           clear hown5 hg5 ho5 hb5 hbb)
        | (refine wpList_append_anyB rfl _ _ 57 rfl w5.heap.size 5 i0 (.int .u8 0) 1 1 Try.underlying57 hi hz0 hz1 hz2 rfl (by decide) (.slice (some ⟨w5.heap.size, 0, none⟩) 0 0) 0 [] rfl HOB.out X2 x.v.length k2 (cellsL x.v) rfl (by rw [cellsL_len, Nat.mul_one]) HNV.out (fun ad e j u h => slB_news HV5.out.1 ad e j u h) (cellsL_one _) HLV.out.2.1 HLV.out.2.2 HBB.out.size ?_
           intro v6 w6 hown6 hg6
           have ho6 : OwnB w6 w5.heap.size v6 x.v := (by rw [Nat.zero_add, List.nil_append] at hown6; exact hown6)
           have hb6 : Below w5.heap.size w5 w6 := HBB.out.grown hg6 HBB.out.size (fun k hk => (World.ownsRow.lt HOB.out k hk).1)
           have HO6 := Lib.hid ho6
           have HB6 := Lib.hid hb6
           obtain ⟨A6, c6, hv6⟩ := row_form ho6
           subst hv6
           clear hown6 hg6 ho6 hb6 hwb p3)
        | fail)
      obtain ⟨XS, hXS⟩ : ∃ X, (#[.int .i64 x.kind, .int .u16 (fr : Int), .slice X1 x.k.length k1, .slice X2 x.v.length k2, .slice X3 x.t.length k3, .int .i64 x.n] : Array Value) = X := ⟨_, rfl⟩
      have hb26 : Below w2.heap.size w2 w6 := HB5.out.trans (HB6.out.mono HB5.out.size)
      have hlow6 : Below w.heap.size w w6 := HBW.out.trans (hb26.mono HBW.out.size)
      have hst6 : StP w w2.heap.size w6.heap.size tk wr.heap.size wd.heap.size XS x.k.length x.v.length (.slice A5 x.k.length c5) (.slice A6 x.v.length c6) ts ts n ts (.slice (some ⟨g3, 0, none⟩) n c3) n ts (.slice (some ⟨g4, 0, none⟩) n c4) w6 := by
        refine ⟨hlow6, row_below (row_below HRT.out HB2.out) hb26, row_below (row_below HRU.out HB2.out) hb26, fun t ht => (((HOK.out t ht).1.below HB2.out).out_of hb26).tv, fun t ht => (((HOK.out t ht).1.below HB2.out).out_of (hi := 0) hb26).sr, (HTK.out.1.below HB2.out).out_of hb26, ?_, ?_, ⟨x.k, rfl, HO5.out.next HB6.out⟩, ⟨x.v, rfl, HO6.out.from_ HB5.out.size⟩⟩
        · rw [← hXS]; exact (hb26.block _ (Array.getElem?_eq_some_iff.1 HBX.out).1).trans HBX.out
        · exact (hb26.block _ HBU.out.lt).trans HBU.out
      have HST := Lib.hid hst6
      have HKB : Hid (∀ g, (Value.slice A5 x.k.length c5).ownBlock = some g → g < w6.heap.size) := fun g hg => Nat.lt_of_lt_of_le (ownB_lt HO5.out g hg) HB6.out.size
      have HVB : Hid (∀ g, (Value.slice A6 x.v.length c6).ownBlock = some g → g < w6.heap.size) := fun g hg => ownB_lt HO6.out g hg
      have HKV : Hid (∀ g, (Value.slice A5 x.k.length c5).ownBlock = some g → (Value.slice A6 x.v.length c6).ownBlock ≠ some g) := fun g hg e => Nat.lt_irrefl g (Nat.lt_of_lt_of_le (ownB_lt HO5.out g hg) (World.ownsRow.lt HO6.out g e).1)
      have HWL : Hid (w.heap.size ≤ w2.heap.size) := HBW.out.size
      have HUB : Hid (some wd.heap.size ≠ (Value.slice (some ⟨g4, 0, none⟩) n c4).ownBlock) := by
        show _ ≠ _
        have h1 := (World.ownsRow.lt HRU.out g4 rfl).2
        have h2 := HLD.out
        intro e
        have e2 : wd.heap.size = g4 := by simpa [Value.ownBlock] using e
        omega
      have HSK6 : Hid (SlB w6 w6.heap.size A5 x.k) := (SlB.of_own (HO5.out.next HB6.out)).2
      have HSV6 : Hid (SlB w6 w6.heap.size A6 x.v) := (SlB.of_own HO6.out).2
      have HSH : Hid (XS[0]? = some (.int .i64 x.kind) ∧ XS[2]? = some (.slice X1 x.k.length k1) ∧ XS[3]? = some (.slice X2 x.v.length k2)) := by rw [← hXS]; exact ⟨rfl, rfl, rfl⟩
      have p0 : w6.cell? ⟨wr.heap.size, 0, none⟩ = some (.int .i64 x.kind) := (hst6.cx 0).trans HSH.out.1
      have HXS := Lib.hid hXS
      clear hXS hst6 hb26 hlow6 HB5 HB6 HBB HBA HOA HOB HV5 HVX HNA HNV HLA HLV HSA HB2 HBX HBU HO5 HO6 HRT HRU HKN HVN hwa
      have HTL : Hid (tk.L.length ≤ 1000) := by show _ ≤ _; have := HTK.out.2; have := HLN.out; omega
      go_upto_block 2 with (fail)
      go_cut [3, 4, 12, 13, 14, 15] from 61 to 198 (fun a3 a4 a12 a13 a14 a15 wc => ∃ (n' : Nat) (ts' : List TrP) (B3 B4 : Option Addr) (d3 d4 : Nat), a3 = .slice B3 n' d3 ∧ a4 = .slice B4 n' d4 ∧ Hid (StP w w2.heap.size w6.heap.size tk wr.heap.size wd.heap.size XS x.k.length x.v.length (.slice A5 x.k.length c5) (.slice A6 x.v.length c6) ts' ts' n' ts' (.slice B3 n' d3) n' ts' (.slice B4 n' d4) wc) ∧ Hid (ts'.length = n' ∧ 2 ≤ n' ∧ n' ≤ j + 3 ∧ ∀ t ∈ ts', t.L.length ≤ j + 1))
      case first =>
        have HSAME : Hid (ts.length = n ∧ 2 ≤ n ∧ n ≤ j + 3 ∧ ∀ t ∈ ts, t.L.length ≤ j + 1) := ⟨HN.out, HNN.out.1, by have := HNN.out.2; omega, fun t ht => by have := (HOK.out t ht).2; omega⟩
        by_cases e0 : x.kind = 0
        · have e0' : (x.kind == 0) = true := by rw [e0]; rfl
          by_cases f : x.k.length ≤ 4096 ∧ x.v.length ≤ 65536
          · have HPUT : True := trivial
            clear HPUT
            as_aux_lemma =>
              have HPT := Lib.hid (@putM_any (GbI w2.heap.size w6.heap.size) (.pointer tk.p) tk.L A5 A6 c5 c6 x.k x.v w6 HST.out.okk.tv HSK6.out HSV6.out f.1 f.2 (by have := HTL.out; omega) (fun b hb => Or.inr hb))
              have HPR := Lib.hid (fun X (h1 : SlR X tk.A tk.L) => putR_yes tk.A tk.c tk.L x.k x.v X h1 (by have := HTL.out; omega) (@TreeV.rise (GbI w2.heap.size w6.heap.size) w6 (.pointer tk.p) tk.L HST.out.okk.tv) f.1 f.2)
              have HNB : Hid (n + 1 ≤ maxLen ∧ (n + 1) * 8 ≤ 140737488355328 ∧ (n + 1) * 24 ≤ 140737488355328) := by
                have h1 := HNN.out.2
                have h2 := HLN.out
                have : 200000 ≤ maxLen := by decide
                exact ⟨by omega, by omega, by omega⟩
              obtain ⟨ip, hip, hp0, hp1, hp2⟩ := info_parts infoTP
              obtain ⟨ir, hir, hr0, hr1, hr2⟩ := info_parts infoTR
              obtain ⟨M, hM⟩ : ∃ M, putL tk.L (x.k, x.v) = M := ⟨_, rfl⟩
              have HML : Hid (M.length ≤ tk.L.length + 1) := by show _ ≤ _; rw [← hM]; exact put_len _ _
              rw [hM] at HPT HPR
              have HTS9 : Hid (∀ (Ar : Option Addr) (cr b7 : Nat), (ts ++ [(⟨some ⟨b7, 0, none⟩, Ar, cr, M⟩ : TrP)]).length = n + 1 ∧ 2 ≤ n + 1 ∧ n + 1 ≤ j + 3 ∧ ∀ t ∈ ts ++ [(⟨some ⟨b7, 0, none⟩, Ar, cr, M⟩ : TrP)], t.L.length ≤ j + 1) := fun Ar cr b7 => by
                refine ⟨by rw [List.length_append, HN.out]; rfl, by have := HNN.out.1; omega, by have := HNN.out.2; omega, fun t ht => ?_⟩
                rcases List.mem_append.1 ht with ht | ht
                · have := (HOK.out t ht).2; omega
                · rw [List.mem_singleton.1 ht]
                  have h1 := HTK.out.2
                  have h2 := HML.out
                  show (M : List Pr).length ≤ j + 1
                  omega
              clear hM e0 f
              go_wp2_with fail
              refine HPT.out.mono ?_
              rintro e w7 ⟨v7, rfl, ⟨b7, rfl⟩, ht7, hb7⟩
              have HST7 := Lib.hid ((HST.out.below hb7).more3 ⟨some ⟨b7, 0, none⟩, none, 0, M⟩ ht7)
              have b0 : w7.cell? ⟨wd.heap.size, 0, none⟩ = some (.slice tk.A tk.L.length tk.c) := HST7.out.bu.cell
              have p2 : w7.cell? ⟨wr.heap.size, 2, none⟩ = some (.slice X1 x.k.length k1) := (HST7.out.cx 2).trans HSH.out.2.1
              have p3 : w7.cell? ⟨wr.heap.size, 3, none⟩ = some (.slice X2 x.v.length k2) := (HST7.out.cx 3).trans HSH.out.2.2
              have s2 : (convert 57 9 (.slice X1 x.k.length k1)).run Try.prog w7 = .ok (.string ⟨x.k.toArray⟩) w7 := slB_string (HKS.out w7 HST7.out.low) k1
              have s3 : (convert 57 9 (.slice X2 x.v.length k2)).run Try.prog w7 = .ok (.string ⟨x.v.toArray⟩) w7 := slB_string (HVS.out w7 HST7.out.low) k2
              clear HPT ht7 hb7
              go_wp2_with fail
              refine (HPR.out w7 HST7.out.okk.sr).mono ?_
              rintro e w8 ⟨Ar, cr, rfl, hsr, hb8⟩
              have HST8 := Lib.hid ((HST7.out.below hb8).more4 ⟨none, Ar, cr, M⟩ hsr)
              have HUB8 : Hid (some w8.heap.size ≠ (Value.slice (some ⟨g4, 0, none⟩) n c4).ownBlock) := by
                show _ ≠ _
                have h1 := (World.ownsRow.lt HST8.out.r4 g4 rfl).2
                intro e
                have e2 : w8.heap.size = g4 := by simpa [Value.ownBlock] using e
                omega
              obtain ⟨w9, hw9⟩ : ∃ X, w8.alloc (.cells #[.slice Ar M.length cr] 54) = X := ⟨_, rfl⟩
              have hST9 := HST8.out.below (show Below w8.heap.size w8 w9 by rw [← hw9]; exact (Below.refl _ _).alloc (Nat.le_refl _) _)
              have hSb9 : Boxed w9 w8.heap.size 54 (.slice Ar M.length cr) := by rw [← hw9]; exact Boxed.new w8 _ _
              clear HPR b0 p2 p3 s2 s3 hsr hb8
              go_upto_region 20 with (fail)
              try rw [hw9]
              clear hw9
              have hS0 : StE w w2.heap.size w6.heap.size tk wr.heap.size wd.heap.size XS x.k.length x.v.length (.slice A5 x.k.length c5) (.slice A6 x.v.length c6) w9.drew ∧ Boxed w9.drew w8.heap.size 54 (.slice Ar M.length cr) := ⟨(hST9.below (qb_dn (Below.refl _ _) 1)).e, hSb9⟩
              have hST0 : StP w w2.heap.size w6.heap.size tk wr.heap.size wd.heap.size XS x.k.length x.v.length (.slice A5 x.k.length c5) (.slice A6 x.v.length c6) (ts ++ [⟨some ⟨b7, 0, none⟩, none, 0, M⟩]) (ts ++ [⟨none, Ar, cr, M⟩]) n ts (.slice (some ⟨g3, 0, none⟩) n c3) n ts (.slice (some ⟨g4, 0, none⟩) n c4) w9.drew := hST9.below (qb_dn (Below.refl _ _) 1)
              obtain ⟨y0, hy0⟩ : ∃ X, w9.drew = X := ⟨_, rfl⟩
              have HS0 := Lib.hid hS0
              clear hS0 hST9 hSb9
              refine wp_region_held_drew (S := fun X => StE w w2.heap.size w6.heap.size tk wr.heap.size wd.heap.size XS x.k.length x.v.length (.slice A5 x.k.length c5) (.slice A6 x.v.length c6) X ∧ Boxed X w8.heap.size 54 (.slice Ar M.length cr)) (by kernel_rfl) HS0.out (fun hHeld => ?_)
              rw [hy0] at hHeld hST0 ⊢
              have HY0 := Lib.hid hST0
              have HY0b := Lib.hid hHeld.2
              clear hy0 HS0 hST0
              refine takeV 0 (some 93) ((.slice (some ⟨g3, 0, none⟩) n c3)) rfl rfl (by kernel_rfl) (by kernel_rfl) (by kernel_rfl) (fun _ _ _ h => h) (by rfl) (by (intro _w _hSw; (try dsimp only at _hSw); go_simp)) (by assumption) ?_
              simp only [Act.put, List.setIfInBounds_toArray, List.set_cons_zero, List.set_cons_succ]
              refine takeV 1 (some 94) ((.pointer (some ⟨b7, 0, none⟩))) rfl rfl (by kernel_rfl) (by kernel_rfl) (by kernel_rfl) (fun _ _ _ h => h) (by rfl) (by (intro _w _hSw; (try dsimp only at _hSw); go_simp)) (by assumption) ?_
              simp only [Act.put, List.setIfInBounds_toArray, List.set_cons_zero, List.set_cons_succ]
              refine takeV 4 (some 97) ((.slice (some ⟨g4, 0, none⟩) n c4)) rfl rfl (by kernel_rfl) (by kernel_rfl) (by kernel_rfl) (fun _ _ _ h => h) (by rfl) (by (intro _w _hSw; (try dsimp only at _hSw); go_simp)) (by assumption) ?_
              simp only [Act.put, List.setIfInBounds_toArray, List.set_cons_zero, List.set_cons_succ]
              refine takeV 5 (some 98) ((.agg #[.slice Ar M.length cr])) rfl rfl (by kernel_rfl) (by kernel_rfl) (by kernel_rfl) (fun _ _ _ h => h) (by rfl) (by (intro _w hSw; have q0 : _w.cell? ⟨w8.heap.size, 0, none⟩ = some (.slice Ar M.length cr) := hSw.2.cell; have hSw := True; clear hSw; go_simp)) (by assumption) ?_
              simp only [Act.put, List.setIfInBounds_toArray, List.set_cons_zero, List.set_cons_succ]
              refine callV2 2 6 rfl rfl (by kernel_rfl) (by rfl) (by rfl) (fun K hK => ?_) (fun K hK => ?_)
              · go_simp
                obtain ⟨y1, hY⟩ : ∃ Z, y0.alloc (.cells #[.pointer (some ⟨b7, 0, none⟩)] 47) = Z := ⟨_, rfl⟩
                have hbY : Below y0.heap.size y0 y1 := by rw [← hY]; exact (Below.refl _ _).alloc (Nat.le_refl _) _
                have HY1 := Lib.hid (HY0.out.below hbY)
                have HY1b : Hid (Boxed y1 w8.heap.size 54 (.slice Ar M.length cr)) := (hbY.block _ HY0b.out.lt).trans HY0b.out
                have HY1l1 : Hid (y1.heap[y0.heap.size]? = some (.cells #[cellP ⟨some ⟨b7, 0, none⟩, none, 0, M⟩] 47 (0, 0))) := by show _ = _; rw [← hY]; exact heap_alloc_new y0 _
                rw [hY]
                clear hY hbY
                refine hK.out _ _ ⟨HY1.out.e, HY1b.out⟩ (fun hHeld2 => ?_)
                clear hK K hHeld
                have hHeld := hHeld2
                clear hHeld2
                try simp only [Act.put, List.setIfInBounds_toArray, List.set_cons_zero, List.set_cons_succ]
                refine callV2 3 6 rfl rfl (by kernel_rfl) (by rfl) (by rfl) (fun K hK => ?_) (fun K hK => ?_)
                · refine wp_append_own _ _ _ 51 rfl w.heap.size 47 ip (.pointer none) 1 8 Try.underlying51 hip hp0 hp1 hp2 rfl (by decide) (.slice (some ⟨g3, 0, none⟩) n c3) n (ts.map cellP) rfl HY1.out.r3 ⟨y0.heap.size, 0, none⟩ 1 1 [cellP ⟨some ⟨b7, 0, none⟩, none, 0, M⟩] rfl rfl (lit_cells HY1l1.out) (fun u hu => by rw [List.mem_singleton.1 hu]; rfl) HNB.out.1 HNB.out.2.1 HY1.out.low.size ?_
                  intro vY y2 hownY hgY _
                  have HY2 := Lib.hid (HY1.out.app3 ⟨some ⟨b7, 0, none⟩, none, 0, M⟩ hownY hgY)
                  have HY2b : Hid (Boxed y2 w8.heap.size 54 (.slice Ar M.length cr)) := (hgY.block _ HY1b.out.lt (row_ne HY1.out.r3 HY1b.out (by decide))).trans HY1b.out
                  obtain ⟨B9, d9, hvY⟩ := row_form hownY
                  subst hvY
                  clear hownY hgY
                  refine hK.out _ _ ⟨HY2.out.e, HY2b.out⟩ (fun hHeld2 => ?_)
                  clear hK K hHeld
                  have hHeld := hHeld2
                  clear hHeld2
                  try simp only [Act.put, List.setIfInBounds_toArray]
                  refine callV 6 rfl (by kernel_rfl) (by rfl) (fun K hK => ?_)
                  go_simp
                  obtain ⟨y3, hY⟩ : ∃ Z, y2.alloc (.cells #[.slice Ar M.length cr] 54) = Z := ⟨_, rfl⟩
                  have hbY : Below y2.heap.size y2 y3 := by rw [← hY]; exact (Below.refl _ _).alloc (Nat.le_refl _) _
                  have HY3 := Lib.hid (HY2.out.below hbY)
                  have HY3b : Hid (Boxed y3 w8.heap.size 54 (.slice Ar M.length cr)) := (hbY.block _ HY2b.out.lt).trans HY2b.out
                  have HY3l2 : Hid (y3.heap[y2.heap.size]? = some (.cells #[cellU ⟨none, Ar, cr, M⟩] 54 (0, 0))) := by show _ = _; rw [← hY]; exact heap_alloc_new y2 _
                  rw [hY]
                  clear hY hbY
                  refine hK.out _ _ ⟨HY3.out.e, HY3b.out⟩ (fun hHeld2 => ?_)
                  clear hK K hHeld
                  have hHeld := hHeld2
                  clear hHeld2
                  try simp only [Act.put, List.setIfInBounds_toArray]
                  refine callV 7 rfl (by kernel_rfl) (by rfl) (fun K hK => ?_)
                  refine wp_append_own _ _ _ 55 rfl w.heap.size 54 ir (.agg #[.slice none 0 0]) 1 24 Try.underlying55 hir hr0 hr1 hr2 rfl (by decide) (.slice (some ⟨g4, 0, none⟩) n c4) n (ts.map cellU) rfl HY3.out.r4 ⟨y2.heap.size, 0, none⟩ 1 1 [cellU ⟨none, Ar, cr, M⟩] rfl rfl (lit_cells HY3l2.out) (fun u hu => by rw [List.mem_singleton.1 hu]; rfl) HNB.out.1 HNB.out.2.2 HY3.out.low.size ?_
                  intro vY y4 hownY hgY _
                  have HY4 := Lib.hid ((HY3.out.app4 HUB.out ⟨none, Ar, cr, M⟩ hownY hgY).fin rfl)
                  have HY4b : Hid (Boxed y4 w8.heap.size 54 (.slice Ar M.length cr)) := (hgY.block _ HY3b.out.lt HUB8.out).trans HY3b.out
                  obtain ⟨B12, d12, hvY⟩ := row_form hownY
                  subst hvY
                  clear hownY hgY
                  refine hK.out _ _ ⟨HY4.out.e, HY4b.out⟩ (fun hHeld2 => ?_)
                  clear hK K hHeld
                  have hHeld := hHeld2
                  clear hHeld2
                  try simp only [Act.put, List.setIfInBounds_toArray]
                  refine takeV 8 (some 3) ((.slice B9 (n + 1) d9)) rfl rfl (by kernel_rfl) (by kernel_rfl) (by kernel_rfl) (fun _ _ _ h => h) (by rfl) (by (intro _w _hSw; (try dsimp only at _hSw); go_simp)) (by assumption) ?_
                  simp only [Act.put]
                  refine takeV 9 (some 4) ((.slice B12 (n + 1) d12)) rfl rfl (by kernel_rfl) (by kernel_rfl) (by kernel_rfl) (fun _ _ _ h => h) (by rfl) (by (intro _w _hSw; (try dsimp only at _hSw); go_simp)) (by assumption) ?_
                  simp only [Act.put]
                  refine wpAnyH_done (by kernel_rfl) ?_ _
                  clear hHeld
                  go_wp2
                  go_meet
                  exact ⟨n + 1, _, _, _, d9, d12, rfl, rfl, HY4.out, HTS9.out Ar cr b7⟩
                · go_simp
                  obtain ⟨y5, hY⟩ : ∃ Z, y1.alloc (.cells #[.slice Ar M.length cr] 54) = Z := ⟨_, rfl⟩
                  have hbY : Below y1.heap.size y1 y5 := by rw [← hY]; exact (Below.refl _ _).alloc (Nat.le_refl _) _
                  have HY5 := Lib.hid (HY1.out.below hbY)
                  have HY5b : Hid (Boxed y5 w8.heap.size 54 (.slice Ar M.length cr)) := (hbY.block _ HY1b.out.lt).trans HY1b.out
                  have HY5l2 : Hid (y5.heap[y1.heap.size]? = some (.cells #[cellU ⟨none, Ar, cr, M⟩] 54 (0, 0))) := by show _ = _; rw [← hY]; exact heap_alloc_new y1 _
                  have HY5l1 : Hid (y5.heap[y0.heap.size]? = some (.cells #[cellP ⟨some ⟨b7, 0, none⟩, none, 0, M⟩] 47 (0, 0))) := (hbY.block _ (Array.getElem?_eq_some_iff.1 HY1l1.out).1).trans HY1l1.out
                  rw [hY]
                  clear hY hbY
                  refine hK.out _ _ ⟨HY5.out.e, HY5b.out⟩ (fun hHeld2 => ?_)
                  clear hK K hHeld
                  have hHeld := hHeld2
                  clear hHeld2
                  try simp only [Act.put, List.setIfInBounds_toArray, List.set_cons_zero, List.set_cons_succ]
                  refine callV 3 rfl (by kernel_rfl) (by rfl) (fun K hK => ?_)
                  refine wp_append_own _ _ _ 51 rfl w.heap.size 47 ip (.pointer none) 1 8 Try.underlying51 hip hp0 hp1 hp2 rfl (by decide) (.slice (some ⟨g3, 0, none⟩) n c3) n (ts.map cellP) rfl HY5.out.r3 ⟨y0.heap.size, 0, none⟩ 1 1 [cellP ⟨some ⟨b7, 0, none⟩, none, 0, M⟩] rfl rfl (lit_cells HY5l1.out) (fun u hu => by rw [List.mem_singleton.1 hu]; rfl) HNB.out.1 HNB.out.2.1 HY5.out.low.size ?_
                  intro vY y6 hownY hgY _
                  have HY6 := Lib.hid (HY5.out.app3 ⟨some ⟨b7, 0, none⟩, none, 0, M⟩ hownY hgY)
                  have HY6b : Hid (Boxed y6 w8.heap.size 54 (.slice Ar M.length cr)) := (hgY.block _ HY5b.out.lt (row_ne HY5.out.r3 HY5b.out (by decide))).trans HY5b.out
                  have HY6l2 : Hid (y6.heap[y1.heap.size]? = some (.cells #[cellU ⟨none, Ar, cr, M⟩] 54 (0, 0))) := (hgY.block _ (Array.getElem?_eq_some_iff.1 HY5l2.out).1 (row_ne HY5.out.r3 HY5l2.out (by decide))).trans HY5l2.out
                  obtain ⟨B9, d9, hvY⟩ := row_form hownY
                  subst hvY
                  clear hownY hgY
                  refine hK.out _ _ ⟨HY6.out.e, HY6b.out⟩ (fun hHeld2 => ?_)
                  clear hK K hHeld
                  have hHeld := hHeld2
                  clear hHeld2
                  try simp only [Act.put, List.setIfInBounds_toArray]
                  refine callV 7 rfl (by kernel_rfl) (by rfl) (fun K hK => ?_)
                  refine wp_append_own _ _ _ 55 rfl w.heap.size 54 ir (.agg #[.slice none 0 0]) 1 24 Try.underlying55 hir hr0 hr1 hr2 rfl (by decide) (.slice (some ⟨g4, 0, none⟩) n c4) n (ts.map cellU) rfl HY6.out.r4 ⟨y1.heap.size, 0, none⟩ 1 1 [cellU ⟨none, Ar, cr, M⟩] rfl rfl (lit_cells HY6l2.out) (fun u hu => by rw [List.mem_singleton.1 hu]; rfl) HNB.out.1 HNB.out.2.2 HY6.out.low.size ?_
                  intro vY y7 hownY hgY _
                  have HY7 := Lib.hid ((HY6.out.app4 HUB.out ⟨none, Ar, cr, M⟩ hownY hgY).fin rfl)
                  have HY7b : Hid (Boxed y7 w8.heap.size 54 (.slice Ar M.length cr)) := (hgY.block _ HY6b.out.lt HUB8.out).trans HY6b.out
                  obtain ⟨B12, d12, hvY⟩ := row_form hownY
                  subst hvY
                  clear hownY hgY
                  refine hK.out _ _ ⟨HY7.out.e, HY7b.out⟩ (fun hHeld2 => ?_)
                  clear hK K hHeld
                  have hHeld := hHeld2
                  clear hHeld2
                  simp only [Act.put]
                  refine takeV 8 (some 3) ((.slice B9 (n + 1) d9)) rfl rfl (by kernel_rfl) (by kernel_rfl) (by kernel_rfl) (fun _ _ _ h => h) (by rfl) (by (intro _w _hSw; (try dsimp only at _hSw); go_simp)) (by assumption) ?_
                  simp only [Act.put]
                  refine takeV 9 (some 4) ((.slice B12 (n + 1) d12)) rfl rfl (by kernel_rfl) (by kernel_rfl) (by kernel_rfl) (fun _ _ _ h => h) (by rfl) (by (intro _w _hSw; (try dsimp only at _hSw); go_simp)) (by assumption) ?_
                  simp only [Act.put]
                  refine wpAnyH_done (by kernel_rfl) ?_ _
                  clear hHeld
                  go_wp2
                  go_meet
                  exact ⟨n + 1, _, _, _, d9, d12, rfl, rfl, HY7.out, HTS9.out Ar cr b7⟩
              · go_simp
                obtain ⟨y8, hY⟩ : ∃ Z, y0.alloc (.cells #[.slice Ar M.length cr] 54) = Z := ⟨_, rfl⟩
                have hbY : Below y0.heap.size y0 y8 := by rw [← hY]; exact (Below.refl _ _).alloc (Nat.le_refl _) _
                have HY8 := Lib.hid (HY0.out.below hbY)
                have HY8b : Hid (Boxed y8 w8.heap.size 54 (.slice Ar M.length cr)) := (hbY.block _ HY0b.out.lt).trans HY0b.out
                have HY8l2 : Hid (y8.heap[y0.heap.size]? = some (.cells #[cellU ⟨none, Ar, cr, M⟩] 54 (0, 0))) := by show _ = _; rw [← hY]; exact heap_alloc_new y0 _
                rw [hY]
                clear hY hbY
                refine hK.out _ _ ⟨HY8.out.e, HY8b.out⟩ (fun hHeld2 => ?_)
                clear hK K hHeld
                have hHeld := hHeld2
                clear hHeld2
                try simp only [Act.put, List.setIfInBounds_toArray, List.set_cons_zero, List.set_cons_succ]
                refine callV 2 rfl (by kernel_rfl) (by rfl) (fun K hK => ?_)
                go_simp
                obtain ⟨y9, hY⟩ : ∃ Z, y8.alloc (.cells #[.pointer (some ⟨b7, 0, none⟩)] 47) = Z := ⟨_, rfl⟩
                have hbY : Below y8.heap.size y8 y9 := by rw [← hY]; exact (Below.refl _ _).alloc (Nat.le_refl _) _
                have HY9 := Lib.hid (HY8.out.below hbY)
                have HY9b : Hid (Boxed y9 w8.heap.size 54 (.slice Ar M.length cr)) := (hbY.block _ HY8b.out.lt).trans HY8b.out
                have HY9l1 : Hid (y9.heap[y8.heap.size]? = some (.cells #[cellP ⟨some ⟨b7, 0, none⟩, none, 0, M⟩] 47 (0, 0))) := by show _ = _; rw [← hY]; exact heap_alloc_new y8 _
                have HY9l2 : Hid (y9.heap[y0.heap.size]? = some (.cells #[cellU ⟨none, Ar, cr, M⟩] 54 (0, 0))) := (hbY.block _ (Array.getElem?_eq_some_iff.1 HY8l2.out).1).trans HY8l2.out
                rw [hY]
                clear hY hbY
                refine hK.out _ _ ⟨HY9.out.e, HY9b.out⟩ (fun hHeld2 => ?_)
                clear hK K hHeld
                have hHeld := hHeld2
                clear hHeld2
                try simp only [Act.put, List.setIfInBounds_toArray, List.set_cons_zero, List.set_cons_succ]
                refine callV 3 rfl (by kernel_rfl) (by rfl) (fun K hK => ?_)
                refine wp_append_own _ _ _ 51 rfl w.heap.size 47 ip (.pointer none) 1 8 Try.underlying51 hip hp0 hp1 hp2 rfl (by decide) (.slice (some ⟨g3, 0, none⟩) n c3) n (ts.map cellP) rfl HY9.out.r3 ⟨y8.heap.size, 0, none⟩ 1 1 [cellP ⟨some ⟨b7, 0, none⟩, none, 0, M⟩] rfl rfl (lit_cells HY9l1.out) (fun u hu => by rw [List.mem_singleton.1 hu]; rfl) HNB.out.1 HNB.out.2.1 HY9.out.low.size ?_
                intro vY y10 hownY hgY _
                have HY10 := Lib.hid (HY9.out.app3 ⟨some ⟨b7, 0, none⟩, none, 0, M⟩ hownY hgY)
                have HY10b : Hid (Boxed y10 w8.heap.size 54 (.slice Ar M.length cr)) := (hgY.block _ HY9b.out.lt (row_ne HY9.out.r3 HY9b.out (by decide))).trans HY9b.out
                have HY10l2 : Hid (y10.heap[y0.heap.size]? = some (.cells #[cellU ⟨none, Ar, cr, M⟩] 54 (0, 0))) := (hgY.block _ (Array.getElem?_eq_some_iff.1 HY9l2.out).1 (row_ne HY9.out.r3 HY9l2.out (by decide))).trans HY9l2.out
                obtain ⟨B9, d9, hvY⟩ := row_form hownY
                subst hvY
                clear hownY hgY
                refine hK.out _ _ ⟨HY10.out.e, HY10b.out⟩ (fun hHeld2 => ?_)
                clear hK K hHeld
                have hHeld := hHeld2
                clear hHeld2
                try simp only [Act.put, List.setIfInBounds_toArray]
                refine callV 7 rfl (by kernel_rfl) (by rfl) (fun K hK => ?_)
                refine wp_append_own _ _ _ 55 rfl w.heap.size 54 ir (.agg #[.slice none 0 0]) 1 24 Try.underlying55 hir hr0 hr1 hr2 rfl (by decide) (.slice (some ⟨g4, 0, none⟩) n c4) n (ts.map cellU) rfl HY10.out.r4 ⟨y0.heap.size, 0, none⟩ 1 1 [cellU ⟨none, Ar, cr, M⟩] rfl rfl (lit_cells HY10l2.out) (fun u hu => by rw [List.mem_singleton.1 hu]; rfl) HNB.out.1 HNB.out.2.2 HY10.out.low.size ?_
                intro vY y11 hownY hgY _
                have HY11 := Lib.hid ((HY10.out.app4 HUB.out ⟨none, Ar, cr, M⟩ hownY hgY).fin rfl)
                have HY11b : Hid (Boxed y11 w8.heap.size 54 (.slice Ar M.length cr)) := (hgY.block _ HY10b.out.lt HUB8.out).trans HY10b.out
                obtain ⟨B12, d12, hvY⟩ := row_form hownY
                subst hvY
                clear hownY hgY
                refine hK.out _ _ ⟨HY11.out.e, HY11b.out⟩ (fun hHeld2 => ?_)
                clear hK K hHeld
                have hHeld := hHeld2
                clear hHeld2
                simp only [Act.put]
                refine takeV 8 (some 3) ((.slice B9 (n + 1) d9)) rfl rfl (by kernel_rfl) (by kernel_rfl) (by kernel_rfl) (fun _ _ _ h => h) (by rfl) (by (intro _w _hSw; (try dsimp only at _hSw); go_simp)) (by assumption) ?_
                simp only [Act.put]
                refine takeV 9 (some 4) ((.slice B12 (n + 1) d12)) rfl rfl (by kernel_rfl) (by kernel_rfl) (by kernel_rfl) (fun _ _ _ h => h) (by rfl) (by (intro _w _hSw; (try dsimp only at _hSw); go_simp)) (by assumption) ?_
                simp only [Act.put]
                refine wpAnyH_done (by kernel_rfl) ?_ _
                clear hHeld
                go_wp2
                go_meet
                exact ⟨n + 1, _, _, _, d9, d12, rfl, rfl, HY11.out, HTS9.out Ar cr b7⟩
          · have hn : 4096 < x.k.length ∨ 65536 < x.v.length := by omega
            have HPN := Lib.hid (putM_no (.pointer tk.p) A5 A6 c5 c6 x.k x.v w6 hn)
            have HPR := Lib.hid (putR_no tk.A tk.c tk.L x.k x.v w6 HST.out.okk.sr (by have := HTL.out; omega) hn)
            have b0 : w6.cell? ⟨wd.heap.size, 0, none⟩ = some (.slice tk.A tk.L.length tk.c) := HST.out.bu.cell
            have p2 : w6.cell? ⟨wr.heap.size, 2, none⟩ = some (.slice X1 x.k.length k1) := (HST.out.cx 2).trans HSH.out.2.1
            have p3 : w6.cell? ⟨wr.heap.size, 3, none⟩ = some (.slice X2 x.v.length k2) := (HST.out.cx 3).trans HSH.out.2.2
            have s2 : (convert 57 9 (.slice X1 x.k.length k1)).run Try.prog w6 = .ok (.string ⟨x.k.toArray⟩) w6 := slB_string (HKS.out w6 HST.out.low) k1
            have s3 : (convert 57 9 (.slice X2 x.v.length k2)).run Try.prog w6 = .ok (.string ⟨x.v.toArray⟩) w6 := slB_string (HVS.out w6 HST.out.low) k2
            clear f hn e0
            go_wp2_with fail
            refine HPN.out.mono ?_
            rintro e w' ⟨rfl, rfl⟩
            go_wp2_with fail
            refine HPR.out.mono ?_
            rintro e w7 ⟨rfl, hb7⟩
            have HST8 : Hid (StP w w2.heap.size w6.heap.size tk wr.heap.size wd.heap.size XS x.k.length x.v.length (.slice A5 x.k.length c5) (.slice A6 x.v.length c6) ts ts n ts (.slice (some ⟨g3, 0, none⟩) n c3) n ts (.slice (some ⟨g4, 0, none⟩) n c4) (w7.alloc (.cells #[.slice none 0 0] 54))) := (HST.out.below hb7).below ((Below.refl _ _).alloc (Nat.le_refl _) _)
            clear HPN HPR b0 p2 p3 s2 s3 hb7
            go_wp2
            go_meet
            exact ⟨n, ts, _, _, c3, c4, rfl, rfl, HST8.out, HSAME.out⟩
        · have e0' : (x.kind == 0) = false := beq_eq_false_iff_ne.2 e0
          by_cases e1 : x.kind = 1
          · have e1' : (x.kind == 1) = true := by rw [e1]; rfl
            have b0 : w6.cell? ⟨wd.heap.size, 0, none⟩ = some (.slice tk.A tk.L.length tk.c) := HST.out.bu.cell
            have p2 : w6.cell? ⟨wr.heap.size, 2, none⟩ = some (.slice X1 x.k.length k1) := (HST.out.cx 2).trans HSH.out.2.1
            have p3 : w6.cell? ⟨wr.heap.size, 3, none⟩ = some (.slice X2 x.v.length k2) := (HST.out.cx 3).trans HSH.out.2.2
            have s2 : (convert 57 9 (.slice X1 x.k.length k1)).run Try.prog w6 = .ok (.string ⟨x.k.toArray⟩) w6 := slB_string (HKS.out w6 HST.out.low) k1
            have s3 : (convert 57 9 (.slice X2 x.v.length k2)).run Try.prog w6 = .ok (.string ⟨x.v.toArray⟩) w6 := slB_string (HVS.out w6 HST.out.low) k2
            as_aux_lemma =>
              have HCT := Lib.hid (fun X (h1 : TvG w2.heap.size w6.heap.size X tk) (h2 : SlB X X.heap.size A5 x.k) => @cutM_any (GbI w2.heap.size w6.heap.size) (.pointer tk.p) tk.L A5 c5 x.k X h1 h2)
              have HNB : Hid (n + 1 ≤ maxLen ∧ (n + 1) * 8 ≤ 140737488355328 ∧ (n + 1) * 24 ≤ 140737488355328) := by
                have h1 := HNN.out.2
                have h2 := HLN.out
                have : 200000 ≤ maxLen := by decide
                exact ⟨by omega, by omega, by omega⟩
              obtain ⟨ip, hip, hp0, hp1, hp2⟩ := info_parts infoTP
              obtain ⟨ir, hir, hr0, hr1, hr2⟩ := info_parts infoTR
              obtain ⟨M, hM⟩ : ∃ M, cutL tk.L x.k = M := ⟨_, rfl⟩
              have HML : Hid (M.length ≤ tk.L.length) := by show _ ≤ _; rw [← hM]; exact cut_le _ _
              have HCR := Lib.hid (fun X (h1 : SlR X tk.A tk.L) => cutR_any tk.A tk.c tk.L x.k X h1 (by have := HTL.out; omega))
              rw [hM] at HCT HCR
              clear hM e0 e1 b0 p2 p3 s2 s3
              go_upto_region 22 with (fail)
              have hS0 : StE w w2.heap.size w6.heap.size tk wr.heap.size wd.heap.size XS x.k.length x.v.length (.slice A5 x.k.length c5) (.slice A6 x.v.length c6) w6.drew := (HST.out.below (qb_dn (Below.refl _ _) 1)).e
              have hST0 : StP w w2.heap.size w6.heap.size tk wr.heap.size wd.heap.size XS x.k.length x.v.length (.slice A5 x.k.length c5) (.slice A6 x.v.length c6) ts ts n ts (.slice (some ⟨g3, 0, none⟩) n c3) n ts (.slice (some ⟨g4, 0, none⟩) n c4) w6.drew := HST.out.below (qb_dn (Below.refl _ _) 1)
              have hK0 : SlB w6.drew w6.drew.heap.size A5 x.k := HSK6.out
              obtain ⟨wz, hwz⟩ : ∃ X, w6.drew = X := ⟨_, rfl⟩
              have HS0 := Lib.hid hS0
              clear hS0
              refine wp_region_held_drew (S := fun X => StE w w2.heap.size w6.heap.size tk wr.heap.size wd.heap.size XS x.k.length x.v.length (.slice A5 x.k.length c5) (.slice A6 x.v.length c6) X) (by kernel_rfl) HS0.out (fun hHeld => ?_)
              rw [hwz] at hHeld hST0 hK0 ⊢
              have HST0 := Lib.hid hST0
              have HK0 := Lib.hid hK0
              clear hwz HS0 hST0 hK0
              refine takeV 0 (some 103) ((.slice (some ⟨g3, 0, none⟩) n c3)) rfl rfl (by kernel_rfl) (by kernel_rfl) (by kernel_rfl) (fun _ _ _ h => h) (by rfl) (by (intro _w _hSw; (try dsimp only at _hSw); go_simp)) (by assumption) ?_
              simp only [Act.put, List.setIfInBounds_toArray, List.set_cons_zero, List.set_cons_succ]
              refine takeV 1 (some 104) ((.pointer tk.p)) rfl rfl (by kernel_rfl) (by kernel_rfl) (by kernel_rfl) (fun _ _ _ h => h) (by rfl) (by (intro _w _hSw; (try dsimp only at _hSw); go_simp)) (by assumption) ?_
              simp only [Act.put, List.setIfInBounds_toArray, List.set_cons_zero, List.set_cons_succ]
              refine takeV 2 (some 105) ((.slice A5 x.k.length c5)) rfl rfl (by kernel_rfl) (by kernel_rfl) (by kernel_rfl) (fun _ _ _ h => h) (by rfl) (by (intro _w _hSw; (try dsimp only at _hSw); go_simp)) (by assumption) ?_
              simp only [Act.put, List.setIfInBounds_toArray, List.set_cons_zero, List.set_cons_succ]
              refine takeV 6 (some 109) ((.slice (some ⟨g4, 0, none⟩) n c4)) rfl rfl (by kernel_rfl) (by kernel_rfl) (by kernel_rfl) (fun _ _ _ h => h) (by rfl) (by (intro _w _hSw; (try dsimp only at _hSw); go_simp)) (by assumption) ?_
              simp only [Act.put, List.setIfInBounds_toArray, List.set_cons_zero, List.set_cons_succ]
              refine takeV 7 (some 110) ((.agg #[.slice tk.A tk.L.length tk.c])) rfl rfl (by kernel_rfl) (by kernel_rfl) (by kernel_rfl) (fun _ _ _ h => h) (by rfl) (by (intro _w hSw; obtain ⟨_, _, _, _, _, _, _, _, hq⟩ := hSw; have q0 : _w.cell? ⟨wd.heap.size, 0, none⟩ = some (.slice tk.A tk.L.length tk.c) := hq.bu.cell; clear hq; have hSw := True; clear hSw; go_simp)) (by assumption) ?_
              simp only [Act.put, List.setIfInBounds_toArray, List.set_cons_zero, List.set_cons_succ]
              refine takeV 8 (some 111) ((.pointer (some ⟨wr.heap.size, 2, none⟩))) rfl rfl (by kernel_rfl) (by kernel_rfl) (by kernel_rfl) (fun _ _ _ h => h) (by rfl) (by (intro _w _hSw; (try dsimp only at _hSw); go_simp)) (by assumption) ?_
              simp only [Act.put, List.setIfInBounds_toArray, List.set_cons_zero, List.set_cons_succ]
              refine takeV 9 (some 112) ((.slice X1 x.k.length k1)) rfl rfl (by kernel_rfl) (by kernel_rfl) (by kernel_rfl) (fun _ _ _ h => h) (by rfl) (by (intro _w hSw; obtain ⟨_, _, _, _, _, _, _, _, hq⟩ := hSw; have q0 : _w.cell? ⟨wr.heap.size, 2, none⟩ = some (.slice X1 x.k.length k1) := (hq.cx 2).trans HSH.out.2.1; clear hq; have hSw := True; clear hSw; go_simp)) (by assumption) ?_
              simp only [Act.put, List.setIfInBounds_toArray, List.set_cons_zero, List.set_cons_succ]
              refine takeV 10 (some 113) ((.string ⟨x.k.toArray⟩)) rfl rfl (by kernel_rfl) (by kernel_rfl) (by kernel_rfl) (fun _ _ _ h => h) (by rfl) (by (intro _w hSw; obtain ⟨_, _, _, _, _, _, _, _, hq⟩ := hSw; have q0 := slB_string (HKS.out _w hq.low) k1; clear hq; have hSw := True; clear hSw; go_simp)) (by assumption) ?_
              simp only [Act.put, List.setIfInBounds_toArray, List.set_cons_zero, List.set_cons_succ]
              refine callV 3 rfl (by kernel_rfl) (by rfl) (fun K hK => ?_)
              go_simp
              refine (HCT.out wz HST0.out.okk.tv HK0.out).mono ?_
              rintro e w7 ⟨v7, rfl, ⟨b7, rfl⟩, ht7, hb7⟩
              have HST7 := Lib.hid ((HST0.out.below hb7).more3 ⟨some ⟨b7, 0, none⟩, none, 0, M⟩ ht7)
              refine hK.out _ _ HST7.out.e (fun hHeld2 => ?_)
              clear ht7 hb7
              clear hK K hHeld
              have hHeld := hHeld2
              clear hHeld2
              try simp only [Act.put, List.setIfInBounds_toArray, List.set_cons_zero, List.set_cons_succ]
              refine callV 4 rfl (by kernel_rfl) (by rfl) (fun K hK => ?_)
              go_simp
              obtain ⟨w8, hw8⟩ : ∃ X, w7.alloc (.cells #[.pointer (some ⟨b7, 0, none⟩)] 47) = X := ⟨_, rfl⟩
              have HST8 := Lib.hid (HST7.out.below (show Below w7.heap.size w7 w8 by rw [← hw8]; exact (Below.refl _ _).alloc (Nat.le_refl _) _))
              have HL1 : Hid (w8.heap[w7.heap.size]? = some (.cells #[cellP ⟨some ⟨b7, 0, none⟩, none, 0, M⟩] 47 (0, 0))) := by show _ = _; rw [← hw8]; exact heap_alloc_new w7 _
              rw [hw8]
              clear hw8
              refine hK.out _ _ HST8.out.e (fun hHeld2 => ?_)
              clear hK K hHeld
              have hHeld := hHeld2
              clear hHeld2
              try simp only [Act.put, List.setIfInBounds_toArray, List.set_cons_zero, List.set_cons_succ]
              refine callV 5 rfl (by kernel_rfl) (by rfl) (fun K hK => ?_)
              refine wp_append_own _ _ _ 51 rfl w.heap.size 47 ip (.pointer none) 1 8 Try.underlying51 hip hp0 hp1 hp2 rfl (by decide) (.slice (some ⟨g3, 0, none⟩) n c3) n (ts.map cellP) rfl HST8.out.r3 ⟨w7.heap.size, 0, none⟩ 1 1 [cellP ⟨some ⟨b7, 0, none⟩, none, 0, M⟩] rfl rfl (lit_cells HL1.out) (fun u hu => by rw [List.mem_singleton.1 hu]; rfl) HNB.out.1 HNB.out.2.1 HST8.out.low.size ?_
              intro v9 w9 hown9 hg9 _
              have HST9 := Lib.hid (HST8.out.app3 ⟨some ⟨b7, 0, none⟩, none, 0, M⟩ hown9 hg9)
              obtain ⟨B9, d9, hv9⟩ := row_form hown9
              subst hv9
              clear hown9 hg9
              refine hK.out _ _ HST9.out.e (fun hHeld2 => ?_)
              clear hK K hHeld
              have hHeld := hHeld2
              clear hHeld2
              simp only [Act.put, List.setIfInBounds_toArray]
              refine callV 11 rfl (by kernel_rfl) (by rfl) (fun K hK => ?_)
              go_simp
              refine (HCR.out w9 HST9.out.okk.sr).mono ?_
              rintro e w10 ⟨Ar, cr, rfl, hsr, hb10, _⟩
              have HST10 := Lib.hid ((HST9.out.below hb10).more4 ⟨none, Ar, cr, M⟩ hsr)
              refine hK.out _ _ HST10.out.e (fun hHeld2 => ?_)
              clear hsr hb10
              clear hK K hHeld
              have hHeld := hHeld2
              clear hHeld2
              try simp only [Act.put, List.setIfInBounds_toArray, List.set_cons_zero, List.set_cons_succ]
              refine callV 12 rfl (by kernel_rfl) (by rfl) (fun K hK => ?_)
              go_simp
              obtain ⟨w11, hw11⟩ : ∃ X, w10.alloc (.cells #[.slice Ar M.length cr] 54) = X := ⟨_, rfl⟩
              have HST11 := Lib.hid (HST10.out.below (show Below w10.heap.size w10 w11 by rw [← hw11]; exact (Below.refl _ _).alloc (Nat.le_refl _) _))
              have HL2 : Hid (w11.heap[w10.heap.size]? = some (.cells #[cellU ⟨none, Ar, cr, M⟩] 54 (0, 0))) := by show _ = _; rw [← hw11]; exact heap_alloc_new w10 _
              rw [hw11]
              clear hw11
              refine hK.out _ _ HST11.out.e (fun hHeld2 => ?_)
              clear hK K hHeld
              have hHeld := hHeld2
              clear hHeld2
              try simp only [Act.put, List.setIfInBounds_toArray, List.set_cons_zero, List.set_cons_succ]
              refine callV 13 rfl (by kernel_rfl) (by rfl) (fun K hK => ?_)
              refine wp_append_own _ _ _ 55 rfl w.heap.size 54 ir (.agg #[.slice none 0 0]) 1 24 Try.underlying55 hir hr0 hr1 hr2 rfl (by decide) (.slice (some ⟨g4, 0, none⟩) n c4) n (ts.map cellU) rfl HST11.out.r4 ⟨w10.heap.size, 0, none⟩ 1 1 [cellU ⟨none, Ar, cr, M⟩] rfl rfl (lit_cells HL2.out) (fun u hu => by rw [List.mem_singleton.1 hu]; rfl) HNB.out.1 HNB.out.2.2 HST11.out.low.size ?_
              intro v12 w12 hown12 hg12 _
              have HST12 := Lib.hid ((HST11.out.app4 HUB.out ⟨none, Ar, cr, M⟩ hown12 hg12).fin rfl)
              obtain ⟨B12, d12, hv12⟩ := row_form hown12
              subst hv12
              refine hK.out _ _ HST12.out.e (fun hHeld2 => ?_)
              clear hown12 hg12
              clear hK K hHeld
              have hHeld := hHeld2
              clear hHeld2
              simp only [Act.put, List.setIfInBounds_toArray]
              refine takeV 14 (some 3) ((.slice B9 (n + 1) d9)) rfl rfl (by kernel_rfl) (by kernel_rfl) (by kernel_rfl) (fun _ _ _ h => h) (by rfl) (by (intro _w _hSw; (try dsimp only at _hSw); go_simp)) (by assumption) ?_
              simp only [Act.put]
              refine takeV 15 (some 4) ((.slice B12 (n + 1) d12)) rfl rfl (by kernel_rfl) (by kernel_rfl) (by kernel_rfl) (fun _ _ _ h => h) (by rfl) (by (intro _w _hSw; (try dsimp only at _hSw); go_simp)) (by assumption) ?_
              simp only [Act.put]
              refine wpAnyH_done (by kernel_rfl) ?_ _
              have HTS9 : Hid ((ts ++ [(⟨some ⟨b7, 0, none⟩, Ar, cr, M⟩ : TrP)]).length = n + 1 ∧ 2 ≤ n + 1 ∧ n + 1 ≤ j + 3 ∧ ∀ t ∈ ts ++ [(⟨some ⟨b7, 0, none⟩, Ar, cr, M⟩ : TrP)], t.L.length ≤ j + 1) := by
                refine ⟨by rw [List.length_append, HN.out]; rfl, by have := HNN.out.1; omega, by have := HNN.out.2; omega, fun t ht => ?_⟩
                rcases List.mem_append.1 ht with ht | ht
                · have := (HOK.out t ht).2; omega
                · rw [List.mem_singleton.1 ht]
                  have h1 := HTK.out.2
                  have h2 := HML.out
                  show (M : List Pr).length ≤ _
                  omega
              clear hHeld
              go_wp2
              go_meet
              exact ⟨n + 1, _, _, _, d9, d12, rfl, rfl, HST12.out, HTS9.out⟩
          · have e1' : (x.kind == 1) = false := beq_eq_false_iff_ne.2 e1
            clear e0 e1
            go_wp2
            go_meet
            exact ⟨n, ts, _, _, c3, c4, rfl, rfl, HST.out, HSAME.out⟩
      case rest =>
        as_aux_lemma =>
          obtain ⟨n', ts', B3, B4, d3, d4, rfl, rfl, HST', HTT⟩ := hcut
          obtain ⟨wo, hwo⟩ : ∃ X, X = wr := ⟨wr, rfl⟩
          subst hwo
          clear HST HSK6 HSV6 p0 HN HNN HOK HTKM HUB HLD
          go_wp2_with fail
          go_loopg [119] x.k.length (fun gk y wr => ∃ (q : Nat), y = .int .i64 (q : Nat) ∧ q + gk = x.k.length ∧ Hid (StP w w2.heap.size w6.heap.size tk wo.heap.size wd.heap.size XS x.k.length x.v.length (.slice A5 x.k.length c5) (.slice A6 x.v.length c6) ts' ts' n' ts' (.slice B3 n' d3) n' ts' (.slice B4 n' d4) wr))
          case atStart => exact ⟨0, rfl, by omega, HST'.out⟩
          case round =>
            obtain ⟨q, rfl, hq, HSS⟩ := hrel
            cases gk with
            | succ gk =>
              have hqz : ((q : Int) < (x.k.length : Int)) := by omega
              have hqz' : decide ((q : Int) < (x.k.length : Int)) = true := decide_eq_true hqz
              have hq0 : (0 : Int) ≤ (q : Int) := by omega
              have hqb : x.k.length ≤ 70000 := by have := HXM.out; omega
              obtain ⟨lb, hlb, hob⟩ := HSS.out.ky
              obtain ⟨gq, csq, eq1, _, _, hgq⟩ := ownB_some hob (by omega)
              subst eq1
              obtain ⟨xq, hxq, hfq⟩ := ownB_byte (k := q) hob hlb.symm (by omega)
              obtain ⟨dq, hdq⟩ := u8_next xq
              have HNX := Lib.hid (HSS.out.setK (k := q) HWL.out (HKB.out gq rfl) (HKV.out gq rfl) dq (by omega))
              clear hgq hob hlb
              go_wp2
              go_roundg gk
              case measure => omega
              case rel => exact ⟨q + 1, by go_num, by omega, HNX.out⟩
            | zero =>
              have hqz : ¬ ((q : Int) < (x.k.length : Int)) := by omega
              have hqz' : decide ((q : Int) < (x.k.length : Int)) = false := decide_eq_false hqz
              have HSK := HSS
              clear HST'
              go_wp2_with fail
              clear hqz hqz' hq
              go_loopg [133] x.v.length (fun gk y wr => ∃ (q : Nat), y = .int .i64 (q : Nat) ∧ q + gk = x.v.length ∧ Hid (StP w w2.heap.size w6.heap.size tk wo.heap.size wd.heap.size XS x.k.length x.v.length (.slice A5 x.k.length c5) (.slice A6 x.v.length c6) ts' ts' n' ts' (.slice B3 n' d3) n' ts' (.slice B4 n' d4) wr))
              case atStart => exact ⟨0, rfl, by omega, HSK.out⟩
              case round =>
                clear HSK HSS
                obtain ⟨q, rfl, hq, HSS⟩ := hrel
                cases gk with
                | succ gk =>
                  have hqz : ((q : Int) < (x.v.length : Int)) := by omega
                  have hqz' : decide ((q : Int) < (x.v.length : Int)) = true := decide_eq_true hqz
                  have hq0 : (0 : Int) ≤ (q : Int) := by omega
                  have hqb : x.v.length ≤ 70000 := by have := HXM.out; omega
                  obtain ⟨lb, hlb, hob⟩ := HSS.out.vy
                  obtain ⟨gq, csq, eq1, _, _, hgq⟩ := ownB_some hob (by omega)
                  subst eq1
                  obtain ⟨xq, hxq, hfq⟩ := ownB_byte (k := q) hob hlb.symm (by omega)
                  obtain ⟨dq, hdq⟩ := u8_next xq
                  have HNX := Lib.hid (HSS.out.setV (k := q) HWL.out (HVB.out gq rfl) (fun e => HKV.out gq e rfl) dq (by omega))
                  clear hgq hob hlb
                  go_wp2
                  go_roundg gk
                  case measure => omega
                  case rel => exact ⟨q + 1, by go_num, by omega, HNX.out⟩
                | zero =>
                  have hqz : ¬ ((q : Int) < (x.v.length : Int)) := by omega
                  have hqz' : decide ((q : Int) < (x.v.length : Int)) = false := decide_eq_false hqz
                  obtain ⟨p, hp⟩ : ∃ p : Nat, n' = p + 1 := ⟨n' - 1, by have := HTT.out.2.1; omega⟩
                  have hpn : IntKind.i64.wrap ((n' : Int) - 1) = (p : Int) := by rw [show ((n' : Int) - 1) = (p : Int) by omega]; exact IntWalk.i64_in _ (by have := HTT.out.2.2.1; have := HLN.out; omega)
                  have hpz : (p : Int) < (n' : Int) := by omega
                  have hp0 : (0 : Int) ≤ (p : Int) := by omega
                  obtain ⟨tl, htl⟩ : ∃ tl, ts'[p]? = some tl := ⟨_, List.getElem?_eq_getElem (by have := HTT.out.1; omega)⟩
                  have htm := List.mem_of_getElem? htl
                  have hst : StP w w2.heap.size w6.heap.size tk wo.heap.size wd.heap.size XS x.k.length x.v.length (.slice A5 x.k.length c5) (.slice A6 x.v.length c6) ts' ts' n' ts' (.slice B3 n' d3) n' ts' (.slice B4 n' d4) wr.drew := HSS.out.below (qb_dn (Below.refl _ _) 1)
                  obtain ⟨h3, rfl, hh3⟩ := row_at hst.r3 (k := p) (x := cellP tl) (by rw [List.getElem?_map, htl]; rfl)
                  obtain ⟨h4, rfl, hh4⟩ := row_at hst.r4 (k := p) (x := cellU tl) (by rw [List.getElem?_map, htl]; rfl)
                  have HTLM := Lib.hid (HTT.out.2.2.2 tl htm)
                  have HTKL := Lib.hid HTK.out.2
                  clear htl hp
                  go_wp2_with fail
                  obtain ⟨wz, hwz⟩ : ∃ X, wr.drew = X := ⟨_, rfl⟩
                  have HS0 : Hid (Below wr.drew.heap.size wr.drew wr.drew) := Below.refl _ _
                  rw [hwz] at hst hh3 hh4 HS0
                  have HSZ : Hid (∀ X, Below wz.heap.size wz X → StP w w2.heap.size w6.heap.size tk wo.heap.size wd.heap.size XS x.k.length x.v.length (.slice A5 x.k.length c5) (.slice A6 x.v.length c6) ts' ts' n' ts' (.slice (some ⟨h3, 0, none⟩) n' d3) n' ts' (.slice (some ⟨h4, 0, none⟩) n' d4) X) := fun X hX => hst.below hX
                  have HC3 : Hid (∀ X, Below wz.heap.size wz X → X.cell? ⟨h3, p, none⟩ = some (.pointer tl.p)) := fun X hX => (hX.cell (p := ⟨h3, p, none⟩) (cell_lt hh3)).trans hh3
                  have HC4 : Hid (∀ X, Below wz.heap.size wz X → X.cell? ⟨h4, p, none⟩ = some (.slice tl.A tl.L.length tl.c)) := fun X hX => (hX.cell (p := ⟨h4, p, none⟩) (cell_lt hh4)).trans hh4
                  have HCB : Hid (∀ X, Below wz.heap.size wz X → X.cell? ⟨wd.heap.size, 0, none⟩ = some (.slice tk.A tk.L.length tk.c)) := fun X hX => (hst.below hX).bu.cell
                  have HCX : Hid (∀ X, Below wz.heap.size wz X → X.cell? ⟨wo.heap.size, 0, none⟩ = some (.int .i64 x.kind) ∧ X.cell? ⟨wo.heap.size, 1, none⟩ = some (.int .u16 (fr : Int)) ∧ X.cell? ⟨wo.heap.size, 2, none⟩ = some (.slice X1 x.k.length k1) ∧ X.cell? ⟨wo.heap.size, 3, none⟩ = some (.slice X2 x.v.length k2) ∧ X.cell? ⟨wo.heap.size, 4, none⟩ = some (.slice X3 x.t.length k3) ∧ X.cell? ⟨wo.heap.size, 5, none⟩ = some (.int .i64 x.n)) := fun X hX => by
                    have h := fun j => (hst.below hX).cx j
                    rw [← HXS.out] at h
                    exact ⟨h 0, h 1, h 2, h 3, h 4, h 5⟩
                  have HTLL : Hid (∀ X, Below wz.heap.size wz X → ∀ t, t = tk ∨ t = tl → TvG w2.heap.size w6.heap.size X t ∧ SlR X t.A t.L ∧ t.L.length ≤ 1000) := fun X hX t ht => by
                    have h := hst.below hX
                    rcases ht with rfl | rfl
                    · exact ⟨h.okk.tv, h.okk.sr, by have := HTKL.out; have := HLN.out; omega⟩
                    · exact ⟨h.ok3 t htm, h.ok4 t htm, by have := HTLM.out; have := HLN.out; omega⟩
                  have HTE : Hid (∀ X, Below wz.heap.size wz X → ∀ t, t = tk ∨ t = tl → Calls Try.prog 19 #[.pointer t.p, .agg #[.slice t.A t.L.length t.c], .agg #[.int .i64 x.kind, .int .u16 (fr : Int), .slice X1 x.k.length k1, .slice X2 x.v.length k2, .slice X3 x.t.length k3, .int .i64 x.n]] X fun e w' => e = .returned (.bool true) ∧ Below X.heap.size X w') := fun X hX t ht => by
                    have h1 := HTLL.out X hX t ht
                    have hlo := (hst.below hX).low
                    exact @tells_any (GbI w2.heap.size w6.heap.size) t.p t.A X1 X2 X3 t.c k1 k2 k3 t.L ⟨x.kind, fr, x.k, x.v, x.t, x.n⟩ X h1.1 h1.2.1 (HKS.out X hlo) (HTS.out X hlo) HXN.out.1 HXN.out.2
                  have HDT : Hid (∀ X, Below wz.heap.size wz X → ∀ t u, (t = tk ∨ t = tl) → (u = tk ∨ u = tl) → Calls Try.prog 21 #[.pointer t.p, .pointer u.p] X fun e w' => ∃ v' qs, e = .returned v' ∧ OwnQ w' X.heap.size v' qs ∧ qs.map (·.1) = diffL t.L u.L ∧ Below X.heap.size X w') := fun X hX t u ht hu => @diffM_any (GbI w2.heap.size w6.heap.size) _ _ _ _ X (HTLL.out X hX t ht).1 (HTLL.out X hX u hu).1
                  have HDR : Hid (∀ X, Below wz.heap.size wz X → ∀ t u, (t = tk ∨ t = tl) → (u = tk ∨ u = tl) → Calls Try.prog 22 #[.agg #[.slice t.A t.L.length t.c], .agg #[.slice u.A u.L.length u.c]] X (RowEnd X (diffL t.L u.L))) := fun X hX t u ht hu => by
                    have h1 := HTLL.out X hX t ht
                    have h2 := HTLL.out X hX u hu
                    exact diffR_any t.A t.c t.L u.A u.c u.L X h1.2.1 h2.2.1 (by omega) (by omega) (@TreeV.rise (GbI w2.heap.size w6.heap.size) X (.pointer u.p) u.L h2.1)
                  have HDL : Hid (∀ t u, (t = tk ∨ t = tl) → (u = tk ∨ u = tl) → (diffL t.L u.L).length ≤ 1000000) := fun t u ht _ => by
                    have h1 := (HTLL.out wz HS0.out t ht).2.2
                    have h2 : (diffL t.L u.L).length ≤ t.L.length := List.length_filter_le _ _
                    omega
                  clear hst hh3 hh4 htm hpn hqz hqz' hq HTK HSS
                  refine wp_region_held_drew (S := fun X => Below wz.heap.size wz X) (by kernel_rfl) (by rw [hwz]; exact HS0.out) (fun hHeld => ?_)
                  rw [hwz] at hHeld ⊢
                  clear hwz HS0
                  refine takeV 0 (some 148) ((.pointer tk.p)) rfl rfl (by kernel_rfl) (by kernel_rfl) (by kernel_rfl) (fun _ _ _ h => h) (by rfl) (by (intro _w _hSw; (try dsimp only at _hSw); go_simp)) (by assumption) ?_
                  simp only [Act.put, List.setIfInBounds_toArray, List.set_cons_zero, List.set_cons_succ]
                  refine takeV 1 (some 149) ((.agg #[.slice tk.A tk.L.length tk.c])) rfl rfl (by kernel_rfl) (by kernel_rfl) (by kernel_rfl) (fun _ _ _ h => h) (by rfl) (by (intro _w hSw; have q0 := HCB.out _ hSw; clear hSw; go_simp)) (by assumption) ?_
                  simp only [Act.put, List.setIfInBounds_toArray, List.set_cons_zero, List.set_cons_succ]
                  refine takeV 2 (some 150) ((.agg #[.int .i64 x.kind, .int .u16 (fr : Int), .slice X1 x.k.length k1, .slice X2 x.v.length k2, .slice X3 x.t.length k3, .int .i64 x.n])) rfl rfl (by kernel_rfl) (by kernel_rfl) (by kernel_rfl) (fun _ _ _ h => h) (by rfl) (by (intro _w hSw; have q0 := HCX.out _ hSw; obtain ⟨q00, q01, q02, q03, q04, q05⟩ := q0; clear hSw; go_simp)) (by assumption) ?_
                  simp only [Act.put, List.setIfInBounds_toArray, List.set_cons_zero, List.set_cons_succ]
                  refine callV 3 rfl (by kernel_rfl) (by rfl) (fun K hK => ?_)
                  go_simp
                  refine (HTE.out _ hHeld tk (.inl rfl)).mono ?_
                  rintro e wf ⟨rfl, hbf⟩
                  refine hK.out _ _ (hHeld.trans (hbf.mono hHeld.size)) (fun hHeld2 => ?_)
                  clear hK K hHeld hbf
                  have hHeld := hHeld2
                  clear hHeld2
                  try simp only [Act.put, List.setIfInBounds_toArray, List.set_cons_zero, List.set_cons_succ]
                  refine takeV 4 (some 152) ((.bool false)) rfl rfl (by kernel_rfl) (by kernel_rfl) (by kernel_rfl) (fun _ _ _ h => h) (by rfl) (by (intro _w _hSw; (try dsimp only at _hSw); go_simp)) (by assumption) ?_
                  simp only [Act.put, List.setIfInBounds_toArray, List.set_cons_zero, List.set_cons_succ]
                  refine takeV 5 (some 153) ((.bool false)) rfl rfl (by kernel_rfl) (by kernel_rfl) (by kernel_rfl) (fun _ _ _ h => h) (by rfl) (by (intro _w _hSw; (try dsimp only at _hSw); go_simp)) (by assumption) ?_
                  simp only [Act.put, List.setIfInBounds_toArray, List.set_cons_zero, List.set_cons_succ]
                  refine takeV 6 (some 154) ((.slice (some ⟨h3, 0, none⟩) n' d3)) rfl rfl (by kernel_rfl) (by kernel_rfl) (by kernel_rfl) (fun _ _ _ h => h) (by rfl) (by (intro _w _hSw; (try dsimp only at _hSw); go_simp)) (by assumption) ?_
                  simp only [Act.put, List.setIfInBounds_toArray, List.set_cons_zero, List.set_cons_succ]
                  refine takeV 7 (some 155) ((.int .i64 (p : Nat))) rfl rfl (by kernel_rfl) (by kernel_rfl) (by kernel_rfl) (fun _ _ _ h => h) (by rfl) (by (intro _w _hSw; (try dsimp only at _hSw); go_simp)) (by assumption) ?_
                  simp only [Act.put, List.setIfInBounds_toArray, List.set_cons_zero, List.set_cons_succ]
                  refine takeV 8 (some 156) ((.pointer (some ⟨h3, p, none⟩))) rfl rfl (by kernel_rfl) (by kernel_rfl) (by kernel_rfl) (fun _ _ _ h => h) (by rfl) (by (intro _w _hSw; (try dsimp only at _hSw); go_simp)) (by assumption) ?_
                  simp only [Act.put, List.setIfInBounds_toArray, List.set_cons_zero, List.set_cons_succ]
                  refine takeV 9 (some 157) ((.pointer tl.p)) rfl rfl (by kernel_rfl) (by kernel_rfl) (by kernel_rfl) (fun _ _ _ h => h) (by rfl) (by (intro _w hSw; have q0 := HC3.out _ hSw; clear hSw; go_simp)) (by assumption) ?_
                  simp only [Act.put, List.setIfInBounds_toArray, List.set_cons_zero, List.set_cons_succ]
                  refine takeV 10 (some 158) ((.slice (some ⟨h4, 0, none⟩) n' d4)) rfl rfl (by kernel_rfl) (by kernel_rfl) (by kernel_rfl) (fun _ _ _ h => h) (by rfl) (by (intro _w _hSw; (try dsimp only at _hSw); go_simp)) (by assumption) ?_
                  simp only [Act.put, List.setIfInBounds_toArray, List.set_cons_zero, List.set_cons_succ]
                  refine takeV 11 (some 159) ((.int .i64 (p : Nat))) rfl rfl (by kernel_rfl) (by kernel_rfl) (by kernel_rfl) (fun _ _ _ h => h) (by rfl) (by (intro _w _hSw; (try dsimp only at _hSw); go_simp)) (by assumption) ?_
                  simp only [Act.put, List.setIfInBounds_toArray, List.set_cons_zero, List.set_cons_succ]
                  refine takeV 12 (some 160) ((.pointer (some ⟨h4, p, none⟩))) rfl rfl (by kernel_rfl) (by kernel_rfl) (by kernel_rfl) (fun _ _ _ h => h) (by rfl) (by (intro _w _hSw; (try dsimp only at _hSw); go_simp)) (by assumption) ?_
                  simp only [Act.put, List.setIfInBounds_toArray, List.set_cons_zero, List.set_cons_succ]
                  refine takeV 13 (some 161) ((.agg #[.slice tl.A tl.L.length tl.c])) rfl rfl (by kernel_rfl) (by kernel_rfl) (by kernel_rfl) (fun _ _ _ h => h) (by rfl) (by (intro _w hSw; have q0 := HC4.out _ hSw; clear hSw; go_simp)) (by assumption) ?_
                  simp only [Act.put, List.setIfInBounds_toArray, List.set_cons_zero, List.set_cons_succ]
                  refine takeV 14 (some 162) ((.agg #[.int .i64 x.kind, .int .u16 (fr : Int), .slice X1 x.k.length k1, .slice X2 x.v.length k2, .slice X3 x.t.length k3, .int .i64 x.n])) rfl rfl (by kernel_rfl) (by kernel_rfl) (by kernel_rfl) (fun _ _ _ h => h) (by rfl) (by (intro _w hSw; have q0 := HCX.out _ hSw; obtain ⟨q00, q01, q02, q03, q04, q05⟩ := q0; clear hSw; go_simp)) (by assumption) ?_
                  simp only [Act.put, List.setIfInBounds_toArray, List.set_cons_zero, List.set_cons_succ]
                  refine callV 15 rfl (by kernel_rfl) (by rfl) (fun K hK => ?_)
                  go_simp
                  refine (HTE.out _ hHeld tl (.inr rfl)).mono ?_
                  rintro e wf ⟨rfl, hbf⟩
                  refine hK.out _ _ (hHeld.trans (hbf.mono hHeld.size)) (fun hHeld2 => ?_)
                  clear hK K hHeld hbf
                  have hHeld := hHeld2
                  clear hHeld2
                  try simp only [Act.put, List.setIfInBounds_toArray, List.set_cons_zero, List.set_cons_succ]
                  refine takeV 16 (some 164) ((.bool false)) rfl rfl (by kernel_rfl) (by kernel_rfl) (by kernel_rfl) (fun _ _ _ h => h) (by rfl) (by (intro _w _hSw; (try dsimp only at _hSw); go_simp)) (by assumption) ?_
                  simp only [Act.put, List.setIfInBounds_toArray, List.set_cons_zero, List.set_cons_succ]
                  refine takeV 17 (some 165) ((.bool false)) rfl rfl (by kernel_rfl) (by kernel_rfl) (by kernel_rfl) (fun _ _ _ h => h) (by rfl) (by (intro _w _hSw; (try dsimp only at _hSw); go_simp)) (by assumption) ?_
                  simp only [Act.put, List.setIfInBounds_toArray, List.set_cons_zero, List.set_cons_succ]
                  refine takeV 18 (some 166) ((.bool false)) rfl rfl (by kernel_rfl) (by kernel_rfl) (by kernel_rfl) (fun _ _ _ h => h) (by rfl) (by (intro _w _hSw; (try dsimp only at _hSw); go_simp)) (by assumption) ?_
                  simp only [Act.put, List.setIfInBounds_toArray, List.set_cons_zero, List.set_cons_succ]
                  refine takeV 19 (some 167) ((.slice (some ⟨h3, 0, none⟩) n' d3)) rfl rfl (by kernel_rfl) (by kernel_rfl) (by kernel_rfl) (fun _ _ _ h => h) (by rfl) (by (intro _w _hSw; (try dsimp only at _hSw); go_simp)) (by assumption) ?_
                  simp only [Act.put, List.setIfInBounds_toArray, List.set_cons_zero, List.set_cons_succ]
                  refine takeV 20 (some 168) ((.int .i64 (p : Nat))) rfl rfl (by kernel_rfl) (by kernel_rfl) (by kernel_rfl) (fun _ _ _ h => h) (by rfl) (by (intro _w _hSw; (try dsimp only at _hSw); go_simp)) (by assumption) ?_
                  simp only [Act.put, List.setIfInBounds_toArray, List.set_cons_zero, List.set_cons_succ]
                  refine takeV 21 (some 169) ((.pointer (some ⟨h3, p, none⟩))) rfl rfl (by kernel_rfl) (by kernel_rfl) (by kernel_rfl) (fun _ _ _ h => h) (by rfl) (by (intro _w _hSw; (try dsimp only at _hSw); go_simp)) (by assumption) ?_
                  simp only [Act.put, List.setIfInBounds_toArray, List.set_cons_zero, List.set_cons_succ]
                  refine takeV 22 (some 170) ((.pointer tl.p)) rfl rfl (by kernel_rfl) (by kernel_rfl) (by kernel_rfl) (fun _ _ _ h => h) (by rfl) (by (intro _w hSw; have q0 := HC3.out _ hSw; clear hSw; go_simp)) (by assumption) ?_
                  simp only [Act.put, List.setIfInBounds_toArray, List.set_cons_zero, List.set_cons_succ]
                  refine takeV 23 (some 171) ((.pointer tk.p)) rfl rfl (by kernel_rfl) (by kernel_rfl) (by kernel_rfl) (fun _ _ _ h => h) (by rfl) (by (intro _w _hSw; (try dsimp only at _hSw); go_simp)) (by assumption) ?_
                  simp only [Act.put, List.setIfInBounds_toArray, List.set_cons_zero, List.set_cons_succ]
                  refine takeV 25 (some 173) ((.slice (some ⟨h4, 0, none⟩) n' d4)) rfl rfl (by kernel_rfl) (by kernel_rfl) (by kernel_rfl) (fun _ _ _ h => h) (by rfl) (by (intro _w _hSw; (try dsimp only at _hSw); go_simp)) (by assumption) ?_
                  simp only [Act.put, List.setIfInBounds_toArray, List.set_cons_zero, List.set_cons_succ]
                  refine takeV 26 (some 174) ((.int .i64 (p : Nat))) rfl rfl (by kernel_rfl) (by kernel_rfl) (by kernel_rfl) (fun _ _ _ h => h) (by rfl) (by (intro _w _hSw; (try dsimp only at _hSw); go_simp)) (by assumption) ?_
                  simp only [Act.put, List.setIfInBounds_toArray, List.set_cons_zero, List.set_cons_succ]
                  refine takeV 27 (some 175) ((.pointer (some ⟨h4, p, none⟩))) rfl rfl (by kernel_rfl) (by kernel_rfl) (by kernel_rfl) (fun _ _ _ h => h) (by rfl) (by (intro _w _hSw; (try dsimp only at _hSw); go_simp)) (by assumption) ?_
                  simp only [Act.put, List.setIfInBounds_toArray, List.set_cons_zero, List.set_cons_succ]
                  refine takeV 28 (some 176) ((.agg #[.slice tl.A tl.L.length tl.c])) rfl rfl (by kernel_rfl) (by kernel_rfl) (by kernel_rfl) (fun _ _ _ h => h) (by rfl) (by (intro _w hSw; have q0 := HC4.out _ hSw; clear hSw; go_simp)) (by assumption) ?_
                  simp only [Act.put, List.setIfInBounds_toArray, List.set_cons_zero, List.set_cons_succ]
                  refine takeV 29 (some 177) ((.agg #[.slice tk.A tk.L.length tk.c])) rfl rfl (by kernel_rfl) (by kernel_rfl) (by kernel_rfl) (fun _ _ _ h => h) (by rfl) (by (intro _w hSw; have q0 := HCB.out _ hSw; clear hSw; go_simp)) (by assumption) ?_
                  simp only [Act.put, List.setIfInBounds_toArray, List.set_cons_zero, List.set_cons_succ]
                  refine callV 24 rfl (by kernel_rfl) (by rfl) (fun K hK => ?_)
                  go_simp
                  refine (HDT.out _ hHeld tl tk (.inr rfl) (.inl rfl)).mono ?_
                  rintro e wf ⟨vf, qs, rfl, ho, hq, hbf⟩
                  have hn := ownQ_len ho hq
                  obtain ⟨A9, c9, rfl⟩ := ho.form
                  rw [hn] at ho ⊢
                  have HO := Lib.hid ho
                  have HQ := Lib.hid hq
                  have HLZ := Lib.hid hHeld.size
                  refine hK.out _ _ (hHeld.trans (hbf.mono hHeld.size)) (fun hHeld2 => ?_)
                  clear ho hq hn hbf
                  clear hK K hHeld
                  have hHeld := hHeld2
                  clear hHeld2
                  try simp only [Act.put, List.setIfInBounds_toArray, List.set_cons_zero, List.set_cons_succ]
                  refine callV 30 rfl (by kernel_rfl) (by rfl) (fun K hK => ?_)
                  go_simp
                  refine (HDR.out _ hHeld tl tk (.inr rfl) (.inl rfl)).mono ?_
                  rintro e wg ⟨A8, c8, rfl, hs8, hbg⟩
                  have HO8 := Lib.hid (HO.out.next hbg)
                  have HS8 := Lib.hid hs8
                  refine hK.out _ _ (hHeld.trans (hbg.mono hHeld.size)) (fun hHeld2 => ?_)
                  clear hs8 hbg
                  clear HO
                  clear hK K hHeld
                  have hHeld := hHeld2
                  clear hHeld2
                  try simp only [Act.put, List.setIfInBounds_toArray, List.set_cons_zero, List.set_cons_succ]
                  refine callV 31 rfl (by kernel_rfl) (by rfl) (fun K hK => ?_)
                  go_simp
                  refine (same_any A9 A8 c9 c8 _ _ qs _ wg HO8.out HQ.out rfl HS8.out (HDL.out tl tk (.inr rfl) (.inl rfl))).mono ?_
                  rintro e wh ⟨rfl, hkh⟩
                  refine hK.out _ _ (hHeld.trans (hkh.low.mono HLZ.out)) (fun hHeld2 => ?_)
                  clear hkh HO8 HS8 HQ HLZ
                  clear hK K hHeld
                  have hHeld := hHeld2
                  clear hHeld2
                  try simp only [Act.put, List.setIfInBounds_toArray, List.set_cons_zero, List.set_cons_succ]
                  refine takeV 32 (some 180) ((.bool false)) rfl rfl (by kernel_rfl) (by kernel_rfl) (by kernel_rfl) (fun _ _ _ h => h) (by rfl) (by (intro _w _hSw; (try dsimp only at _hSw); go_simp)) (by assumption) ?_
                  simp only [Act.put, List.setIfInBounds_toArray, List.set_cons_zero, List.set_cons_succ]
                  refine takeV 33 (some 181) ((.bool false)) rfl rfl (by kernel_rfl) (by kernel_rfl) (by kernel_rfl) (fun _ _ _ h => h) (by rfl) (by (intro _w _hSw; (try dsimp only at _hSw); go_simp)) (by assumption) ?_
                  simp only [Act.put, List.setIfInBounds_toArray, List.set_cons_zero, List.set_cons_succ]
                  refine takeV 34 (some 182) ((.bool false)) rfl rfl (by kernel_rfl) (by kernel_rfl) (by kernel_rfl) (fun _ _ _ h => h) (by rfl) (by (intro _w _hSw; (try dsimp only at _hSw); go_simp)) (by assumption) ?_
                  simp only [Act.put, List.setIfInBounds_toArray, List.set_cons_zero, List.set_cons_succ]
                  refine takeV 35 (some 183) ((.pointer tk.p)) rfl rfl (by kernel_rfl) (by kernel_rfl) (by kernel_rfl) (fun _ _ _ h => h) (by rfl) (by (intro _w _hSw; (try dsimp only at _hSw); go_simp)) (by assumption) ?_
                  simp only [Act.put, List.setIfInBounds_toArray, List.set_cons_zero, List.set_cons_succ]
                  refine takeV 36 (some 184) ((.slice (some ⟨h3, 0, none⟩) n' d3)) rfl rfl (by kernel_rfl) (by kernel_rfl) (by kernel_rfl) (fun _ _ _ h => h) (by rfl) (by (intro _w _hSw; (try dsimp only at _hSw); go_simp)) (by assumption) ?_
                  simp only [Act.put, List.setIfInBounds_toArray, List.set_cons_zero, List.set_cons_succ]
                  refine takeV 37 (some 185) ((.int .i64 (p : Nat))) rfl rfl (by kernel_rfl) (by kernel_rfl) (by kernel_rfl) (fun _ _ _ h => h) (by rfl) (by (intro _w _hSw; (try dsimp only at _hSw); go_simp)) (by assumption) ?_
                  simp only [Act.put, List.setIfInBounds_toArray, List.set_cons_zero, List.set_cons_succ]
                  refine takeV 38 (some 186) ((.pointer (some ⟨h3, p, none⟩))) rfl rfl (by kernel_rfl) (by kernel_rfl) (by kernel_rfl) (fun _ _ _ h => h) (by rfl) (by (intro _w _hSw; (try dsimp only at _hSw); go_simp)) (by assumption) ?_
                  simp only [Act.put, List.setIfInBounds_toArray, List.set_cons_zero, List.set_cons_succ]
                  refine takeV 39 (some 187) ((.pointer tl.p)) rfl rfl (by kernel_rfl) (by kernel_rfl) (by kernel_rfl) (fun _ _ _ h => h) (by rfl) (by (intro _w hSw; have q0 := HC3.out _ hSw; clear hSw; go_simp)) (by assumption) ?_
                  simp only [Act.put, List.setIfInBounds_toArray, List.set_cons_zero, List.set_cons_succ]
                  refine takeV 41 (some 189) ((.agg #[.slice tk.A tk.L.length tk.c])) rfl rfl (by kernel_rfl) (by kernel_rfl) (by kernel_rfl) (fun _ _ _ h => h) (by rfl) (by (intro _w hSw; have q0 := HCB.out _ hSw; clear hSw; go_simp)) (by assumption) ?_
                  simp only [Act.put, List.setIfInBounds_toArray, List.set_cons_zero, List.set_cons_succ]
                  refine takeV 42 (some 190) ((.slice (some ⟨h4, 0, none⟩) n' d4)) rfl rfl (by kernel_rfl) (by kernel_rfl) (by kernel_rfl) (fun _ _ _ h => h) (by rfl) (by (intro _w _hSw; (try dsimp only at _hSw); go_simp)) (by assumption) ?_
                  simp only [Act.put, List.setIfInBounds_toArray, List.set_cons_zero, List.set_cons_succ]
                  refine takeV 43 (some 191) ((.int .i64 (p : Nat))) rfl rfl (by kernel_rfl) (by kernel_rfl) (by kernel_rfl) (fun _ _ _ h => h) (by rfl) (by (intro _w _hSw; (try dsimp only at _hSw); go_simp)) (by assumption) ?_
                  simp only [Act.put, List.setIfInBounds_toArray, List.set_cons_zero, List.set_cons_succ]
                  refine takeV 44 (some 192) ((.pointer (some ⟨h4, p, none⟩))) rfl rfl (by kernel_rfl) (by kernel_rfl) (by kernel_rfl) (fun _ _ _ h => h) (by rfl) (by (intro _w _hSw; (try dsimp only at _hSw); go_simp)) (by assumption) ?_
                  simp only [Act.put, List.setIfInBounds_toArray, List.set_cons_zero, List.set_cons_succ]
                  refine takeV 45 (some 193) ((.agg #[.slice tl.A tl.L.length tl.c])) rfl rfl (by kernel_rfl) (by kernel_rfl) (by kernel_rfl) (fun _ _ _ h => h) (by rfl) (by (intro _w hSw; have q0 := HC4.out _ hSw; clear hSw; go_simp)) (by assumption) ?_
                  simp only [Act.put, List.setIfInBounds_toArray, List.set_cons_zero, List.set_cons_succ]
                  refine callV 40 rfl (by kernel_rfl) (by rfl) (fun K hK => ?_)
                  go_simp
                  refine (HDT.out _ hHeld tk tl (.inl rfl) (.inr rfl)).mono ?_
                  rintro e wf ⟨vf, qs, rfl, ho, hq, hbf⟩
                  have hn := ownQ_len ho hq
                  obtain ⟨A9, c9, rfl⟩ := ho.form
                  rw [hn] at ho ⊢
                  have HO := Lib.hid ho
                  have HQ := Lib.hid hq
                  have HLZ := Lib.hid hHeld.size
                  refine hK.out _ _ (hHeld.trans (hbf.mono hHeld.size)) (fun hHeld2 => ?_)
                  clear ho hq hn hbf
                  clear hK K hHeld
                  have hHeld := hHeld2
                  clear hHeld2
                  try simp only [Act.put, List.setIfInBounds_toArray, List.set_cons_zero, List.set_cons_succ]
                  refine callV 46 rfl (by kernel_rfl) (by rfl) (fun K hK => ?_)
                  go_simp
                  refine (HDR.out _ hHeld tk tl (.inl rfl) (.inr rfl)).mono ?_
                  rintro e wg ⟨A8, c8, rfl, hs8, hbg⟩
                  have HO8 := Lib.hid (HO.out.next hbg)
                  have HS8 := Lib.hid hs8
                  refine hK.out _ _ (hHeld.trans (hbg.mono hHeld.size)) (fun hHeld2 => ?_)
                  clear hs8 hbg
                  clear HO
                  clear hK K hHeld
                  have hHeld := hHeld2
                  clear hHeld2
                  try simp only [Act.put, List.setIfInBounds_toArray, List.set_cons_zero, List.set_cons_succ]
                  refine callV 47 rfl (by kernel_rfl) (by rfl) (fun K hK => ?_)
                  go_simp
                  refine (same_any A9 A8 c9 c8 _ _ qs _ wg HO8.out HQ.out rfl HS8.out (HDL.out tk tl (.inl rfl) (.inr rfl))).mono ?_
                  rintro e wh ⟨rfl, hkh⟩
                  refine hK.out _ _ (hHeld.trans (hkh.low.mono HLZ.out)) (fun hHeld2 => ?_)
                  clear hkh HO8 HS8 HQ HLZ
                  clear hK K hHeld
                  have hHeld := hHeld2
                  clear hHeld2
                  try simp only [Act.put, List.setIfInBounds_toArray, List.set_cons_zero, List.set_cons_succ]
                  refine takeV 48 (some 196) ((.bool false)) rfl rfl (by kernel_rfl) (by kernel_rfl) (by kernel_rfl) (fun _ _ _ h => h) (by rfl) (by (intro _w _hSw; (try dsimp only at _hSw); go_simp)) (by assumption) ?_
                  simp only [Act.put, List.setIfInBounds_toArray, List.set_cons_zero, List.set_cons_succ]
                  refine takeV 49 (some 197) ((.bool false)) rfl rfl (by kernel_rfl) (by kernel_rfl) (by kernel_rfl) (fun _ _ _ h => h) (by rfl) (by (intro _w _hSw; (try dsimp only at _hSw); go_simp)) (by assumption) ?_
                  simp only [Act.put, List.setIfInBounds_toArray, List.set_cons_zero, List.set_cons_succ]
                  refine wpAnyH_done (by kernel_rfl) ?_ _
                  have HSE := Lib.hid (HSZ.out _ hHeld)
                  have hlb : l.length ≤ 100 := HLN.out
                  clear hHeld
                  go_wp2
                  go_roundg gk0
                  case measure => omega
                  case rel => exact ⟨j + 1, n', ts', _, _, d3, d4, by go_num, rfl, rfl, by omega, HTT.out.1, ⟨HTT.out.2.1, by have := HTT.out.2.2.1; omega⟩, HSE.out.low, HSE.out.r3, HSE.out.r4, fun t ht => ⟨OkG.free ⟨HSE.out.ok3 t ht, HSE.out.ok4 t ht⟩, HTT.out.2.2.2 t ht⟩⟩
end Go.Proofs.Ytohpilamoglhcaa
