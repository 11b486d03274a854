/-
  CONTRACTS: top, Len, Rank, Cut, Put, Get, At, Seek, Back.
-/
import Derived.Test.YtohpilamoglhcaaQCut
import Derived.Test.YtohpilamoglhcaaQApi
namespace Go.Proofs.Ytohpilamoglhcaa
open Go.RowKit

/-- a tree's pointer, and the pairs that the tree has -/
structure TreeV [LT Gb] (w : World) (v : Value) (L : List Pr) : Prop where
  ex : ∃ (u : Option Addr) (t : Tr), v = .pointer u ∧ (u = none ∧ t = .nil ∨ ∃ b, u = some ⟨b, 0, none⟩ ∧ w.heap[b]? = some (.cells #[t.ptr] 50 (0, 0))) ∧ TreeAt w t ∧ t.list = L
  rise : Rise L
  small : ∀ q ∈ L, q.1.length ≤ 100000 ∧ q.2.length ≤ 100000
  few : L.length ≤ 100000
theorem TreeV.next [LT Gb] {w w' : World} {v : Value} {L : List Pr} (h : TreeV w v L) (hb : Below w.heap.size w w') : TreeV w' v L := by
  obtain ⟨⟨u, t, h1, h2, h3, h4⟩, h5, h6, h7⟩ := h
  refine ⟨⟨u, t, h1, ?_, h3.next hb, h4⟩, h5, h6, h7⟩
  rcases h2 with h2 | ⟨b, e, h2⟩
  · exact .inl h2
  · exact .inr ⟨b, e, (hb.block b (Array.getElem?_eq_some_iff.1 h2).1).trans h2⟩
theorem treeV_nil [LT Gb] (w : World) : TreeV w (.pointer none) [] := ⟨⟨none, .nil, rfl, .inl ⟨rfl, rfl⟩, trivial, rfl⟩, List.Pairwise.nil, (fun _ h => by cases h), Nat.zero_le _⟩
set_option maxRecDepth 100000 in
set_option maxHeartbeats 400000 in
theorem top_any {u : Option Addr} {t : Tr} (w : World) (h2 : u = none ∧ t = .nil ∨ ∃ b, u = some ⟨b, 0, none⟩ ∧ w.heap[b]? = some (.cells #[t.ptr] 50 (0, 0))) :
    Calls Try.prog 31 #[.pointer u] w fun e w' => e = .returned t.ptr ∧ w = w' := by
  rcases h2 with ⟨rfl, rfl⟩ | ⟨b, rfl, h2⟩
  · simp only [Tr.ptr]
    go_enter Try.func31, Try.ntmps31
    go_wp2
    go_ret
    exact ⟨rfl, rfl⟩
  · have c0 : w.cell? ⟨b, 0, none⟩ = some t.ptr := by simp [World.cell?, h2]
    obtain ⟨ut, hut⟩ := t.ptr_pointer
    rw [hut] at c0 ⊢
    clear h2 hut
    go_enter Try.func31, Try.ntmps31
    go_wp2
    go_ret
    exact ⟨rfl, rfl⟩
set_option maxRecDepth 100000 in
set_option maxHeartbeats 400000 in
theorem len_any [LT Gb] {v : Value} {L : List Pr} (w : World) (h : TreeV w v L) :
    Calls Try.prog 24 #[v] w fun e w' => e = .returned (.int .i64 (L.length : Nat)) ∧ w = w' := by
  obtain ⟨⟨u, t, rfl, h2, h3, rfl⟩, _, _, _⟩ := h
  have HT := Lib.hid (top_any w h2)
  have HC := Lib.hid (count_any t w h3)
  rw [t.len]
  clear h2 h3
  obtain ⟨ut, hut⟩ := t.ptr_pointer
  rw [hut] at HT HC
  clear hut
  go_enter Try.func24, Try.ntmps24
  go_wp2_with fail
  refine HT.out.mono ?_
  rintro e w' ⟨rfl, rfl⟩
  go_wp2_with fail
  refine HC.out.mono ?_
  rintro e w' ⟨rfl, rfl⟩
  go_wp2
  go_ret
  exact ⟨rfl, rfl⟩
set_option maxRecDepth 100000 in
set_option maxHeartbeats 400000 in
theorem rankM_any [LT Gb] {v : Value} {L : List Pr} {B : Nat} (A : Option Addr) (c : Nat) (k : By) (w : World) (h : TreeV w v L) (hk : SlB w B A k) :
    Calls Try.prog 39 #[v, .slice A k.length c] w fun e w' => e = .returned (.int .i64 (rankL L k : Nat)) ∧ w = w' := by
  obtain ⟨⟨u, t, rfl, h2, h3, rfl⟩, hR, _, hf⟩ := h
  have HT := Lib.hid (top_any w h2)
  have HC := Lib.hid (rank_any t B A c k w h3 hk (by rw [t.len] at hf; omega))
  rw [rankT_is t k hR] at HC
  clear h2 h3 hk hf hR
  obtain ⟨ut, hut⟩ := t.ptr_pointer
  rw [hut] at HT HC
  clear hut
  go_enter Try.func39, Try.ntmps39
  go_wp2_with fail
  refine HT.out.mono ?_
  rintro e w' ⟨rfl, rfl⟩
  go_wp2_with fail
  refine HC.out.mono ?_
  rintro e w' ⟨rfl, rfl⟩
  go_wp2
  go_ret
  exact ⟨rfl, rfl⟩
/-- what Cut and Put leave: a new tree -/
def NewT [LT Gb] (w : World) (L : List Pr) (v : Value) (w' : World) : Prop := (∃ b, v = .pointer (some ⟨b, 0, none⟩)) ∧ TreeV w' v L ∧ Below w.heap.size w w'
theorem newT_mk [LT Gb] {w w1 : World} {t : Tr} {L : List Pr} (h1 : TreeAt w1 t) (h2 : t.list = L) (hb : Below w.heap.size w w1) (hR : Rise L) (hs : ∀ q ∈ L, q.1.length ≤ 100000 ∧ q.2.length ≤ 100000) (hf : L.length ≤ 100000) :
    NewT w L (.pointer (some ⟨w1.heap.size, 0, none⟩)) (w1.alloc (.cells #[t.ptr] 50)) := by
  have hb2 : Below w1.heap.size w1 (w1.alloc (.cells #[t.ptr] 50)) := (Below.refl _ _).alloc (Nat.le_refl _) _
  exact ⟨⟨_, rfl⟩, ⟨⟨_, t, rfl, .inr ⟨_, rfl, heap_alloc_new w1 _⟩, h1.next hb2, h2⟩, hR, hs, hf⟩, hb.trans (hb2.mono hb.size)⟩
set_option maxRecDepth 100000 in
set_option maxHeartbeats 400000 in
theorem cutM_any [LT Gb] {v : Value} {L : List Pr} (A : Option Addr) (c : Nat) (k : By) (w : World) (h : TreeV w v L) (hk : SlB w w.heap.size A k) :
    Calls Try.prog 17 #[v, .slice A k.length c] w fun e w' => ∃ v', e = .returned v' ∧ NewT w (cutL L k) v' w' := by
  obtain ⟨⟨u, t, rfl, h2, h3, rfl⟩, hR, hs, hf⟩ := h
  have HT := Lib.hid (top_any w h2)
  have HC := Lib.hid (cut_any t w A c k h3 hk hR (by rw [t.len] at hf; omega))
  have HF : Hid (∀ (t' : Tr) (w1 : World), TreeAt w1 t' → t'.list = cutL t.list k → Below w.heap.size w w1 → NewT w (cutL t.list k) (.pointer (some ⟨w1.heap.size, 0, none⟩)) (w1.alloc (.cells #[t'.ptr] 50))) :=
    fun t' w1 h1 h4 hb => newT_mk h1 h4 hb (rise_cut hR k) (fun q hq => hs q (mem_cut.1 hq).1) (Nat.le_trans (cut_len' _ _) hf)
  clear h2 h3 hk hf hR hs
  obtain ⟨ut, hut⟩ := t.ptr_pointer
  rw [hut] at HT HC
  clear hut
  go_enter Try.func17, Try.ntmps17
  go_wp2_with fail
  refine HT.out.mono ?_
  rintro e w' ⟨rfl, rfl⟩
  go_wp2_with fail
  refine HC.out.mono ?_
  rintro e w1 ⟨t', rfl, ht, hl, hb⟩
  have HN := HF.out t' w1 ht hl hb
  obtain ⟨u', hu'⟩ := t'.ptr_pointer
  rw [hu'] at HN ⊢
  have HNN := Lib.hid HN
  clear HN hu' ht hl hb
  go_wp2
  go_ret
  exact ⟨_, rfl, HNN.out⟩
set_option maxRecDepth 100000 in
set_option maxHeartbeats 1000000 in
theorem getM_any [LT Gb] {v : Value} {L : List Pr} {B : Nat} (A : Option Addr) (c : Nat) (k : By) (w : World) (h : TreeV w v L) (hk : SlB w B A k) :
    Calls Try.prog 38 #[v, .slice A k.length c] w fun e w' => ∃ A' c', e = .returned (.tuple #[.slice A' ((getL L k).getD []).length c', .bool (getL L k).isSome]) ∧ OwnB w' w.heap.size (.slice A' ((getL L k).getD []).length c') ((getL L k).getD []) ∧ Below w.heap.size w w' := by
  obtain ⟨⟨u, t, rfl, h2, h3, rfl⟩, hR, hs, hf⟩ := h
  have HT := Lib.hid (top_any w h2)
  have HC := Lib.hid (find_any t B A c k w h3 hk)
  obtain ⟨ut, hut⟩ := t.ptr_pointer
  rw [hut] at HT HC
  rcases findT_get t k hR with ⟨e1, e2⟩ | ⟨b, x, l, r, e1, e2⟩
  · rw [e1] at HC
    rw [e2]
    clear h2 h3 hk hf hR hs hut e1 e2
    go_enter Try.func38, Try.ntmps38
    go_wp2_with fail
    refine HT.out.mono ?_
    rintro e w' ⟨rfl, rfl⟩
    go_wp2_with fail
    refine HC.out.mono ?_
    rintro e w' ⟨rfl, rfl⟩
    simp only [Tr.ptr]
    go_wp2
    go_ret2
    exact ⟨none, 0, rfl, ownB_nil _ _, Below.refl _ _⟩
  · have hnode := findT_at (k := k) h3
    rw [e1] at HC hnode
    rw [e2]
    obtain ⟨⟨pb, hnd, hp⟩, _, _⟩ := hnode
    obtain ⟨A2, c2, A3, c3, hpb, _, hpv⟩ := hp
    replace hpv := hpv.1
    have hm := (getL_some hR).1 e2
    have HK := Lib.hid (clone_all A3 c3 x w hpv (hs _ hm).2)
    obtain ⟨ul, hul⟩ := l.ptr_pointer
    obtain ⟨ur, hur⟩ := r.ptr_pointer
    rw [hul, hur] at hnd
    have c0 := hnd.c0
    have p1 : w.cell? ⟨pb, 1, none⟩ = some (.slice A3 x.length c3) := by simp [World.cell?, hpb]
    clear h2 h3 hk hf hR hs hut e1 e2 hnd hpb hpv hm hul hur
    go_enter Try.func38, Try.ntmps38
    go_wp2_with fail
    refine HT.out.mono ?_
    rintro e w' ⟨rfl, rfl⟩
    go_wp2_with fail
    refine HC.out.mono ?_
    rintro e w' ⟨rfl, rfl⟩
    simp only [Tr.ptr]
    go_wp2_with fail
    refine HK.out.mono ?_
    rintro e w1 ⟨A', c', rfl, ho, hb⟩
    have HO := Lib.hid ho
    have HB := Lib.hid hb
    clear ho hb c0 p1
    go_wp2
    go_ret2
    exact ⟨A', c', rfl, HO.out, HB.out⟩
/-- the pair at a place -/
def atP (L : List Pr) (i : Int) : Pr := if 0 ≤ i then (L[i.toNat]?).getD ([], []) else ([], [])
def isP (L : List Pr) (i : Int) : Bool := decide (0 ≤ i ∧ i < L.length)
theorem prV_zero (w : World) (B : Nat) (hB : B ≤ w.heap.size) : PrV w B (.agg #[.slice none 0 0, .slice none 0 0]) ([], []) :=
  ⟨none, 0, none, 0, B, rfl, ownB_nil _ _, ownB_nil _ _, Nat.le_refl _, hB, fun g hg => by simp [Value.ownBlock] at hg⟩
/-- what At, Seek and Back answer -/
def AtEnd (w : World) (L : List Pr) (i : Int) (e : Ending) (w' : World) : Prop := ∃ v, e = .returned (.tuple #[v, .bool (isP L i)]) ∧ PrV w' w.heap.size v (atP L i) ∧ Below w.heap.size w w'
set_option maxRecDepth 100000 in
set_option maxHeartbeats 1000000 in
theorem atM_any [LT Gb] {v : Value} {L : List Pr} (i : Int) (w : World) (h : TreeV w v L) (hi0 : -9223372036854775808 ≤ i) (hi1 : i ≤ 9223372036854775807) :
    Calls Try.prog 44 #[v, .int .i64 i] w (AtEnd w L i) := by
  obtain ⟨⟨u, t, rfl, h2, h3, rfl⟩, hR, hs, hf⟩ := h
  obtain ⟨w1, hw1⟩ : ∃ X, w.alloc (.cells #[.slice none 0 0, .slice none 0 0] 93) = X := ⟨_, rfl⟩
  have hb1 : Below w.heap.size w w1 := by rw [← hw1]; exact (Below.refl _ _).alloc (Nat.le_refl _) _
  have hp1 : PBox w1 w.heap.size (.slice none 0 0) (.slice none 0 0) := by rw [← hw1]; exact heap_alloc_new w _
  have h2' : u = none ∧ t = .nil ∨ ∃ b, u = some ⟨b, 0, none⟩ ∧ w1.heap[b]? = some (.cells #[t.ptr] 50 (0, 0)) := by
    rcases h2 with h2 | ⟨b, e, h2⟩
    · exact .inl h2
    · exact .inr ⟨b, e, (hb1.block b (Array.getElem?_eq_some_iff.1 h2).1).trans h2⟩
  have HT := Lib.hid (top_any w1 h2')
  have HC := Lib.hid (at_any t i w1 (h3.next hb1) (by rw [t.len] at hf; omega) hi0 hi1)
  have HB1 := Lib.hid hb1
  have HP1 := Lib.hid hp1
  obtain ⟨ut, hut⟩ := t.ptr_pointer
  rw [hut] at HT HC
  by_cases g : 0 ≤ i ∧ i < t.list.length
  · have hlt : i.toNat < t.list.length := by omega
    obtain ⟨b, l, r, e1⟩ := atT_some t i.toNat hlt
    have ei : ((i.toNat : Nat) : Int) = i := by omega
    rw [ei] at e1
    have hnode := atT_at (i := i) (h3.next hb1)
    rw [e1] at HC hnode
    have eP : atP t.list i = t.list[i.toNat] := by unfold atP; rw [if_pos g.1, List.getElem?_eq_getElem hlt]; rfl
    have eI : isP t.list i = true := by unfold isP; exact decide_eq_true g
    have hm := hs _ (List.getElem_mem hlt)
    unfold AtEnd
    rw [eP, eI]
    obtain ⟨q, hq⟩ : ∃ q, t.list[i.toNat] = q := ⟨_, rfl⟩
    rw [hq] at HC hnode hm ⊢
    obtain ⟨⟨pb, hnd, hp⟩, _, _⟩ := hnode
    obtain ⟨A2, c2, A3, c3, hpb, hpk, hpv⟩ := hp
    replace hpk := hpk.1
    replace hpv := hpv.1
    have HK := Lib.hid (own_any A2 A3 c2 c3 q w1 hpk hpv hm.1 hm.2)
    obtain ⟨ul, hul⟩ := l.ptr_pointer
    obtain ⟨ur, hur⟩ := r.ptr_pointer
    rw [hul, hur] at hnd
    have c0 := hnd.c0
    have p0 : w1.cell? ⟨pb, 0, none⟩ = some (.slice A2 q.1.length c2) := by simp [World.cell?, hpb]
    have p1 : w1.cell? ⟨pb, 1, none⟩ = some (.slice A3 q.2.length c3) := by simp [World.cell?, hpb]
    clear h2 h2' h3 hf hR hs hut e1 ei eP eI hnd hpb hpk hpv hm hul hur hq hb1 hp1
    go_enter Try.func44, Try.ntmps44
    go_wp2_with fail
    try rw [hw1]
    clear hw1
    refine HT.out.mono ?_
    rintro e w' ⟨rfl, rfl⟩
    go_wp2_with fail
    refine HC.out.mono ?_
    rintro e w' ⟨rfl, rfl⟩
    simp only [Tr.ptr]
    go_wp2_with fail
    refine HK.out.mono ?_
    rintro e w4 ⟨v4, he, hv, hb⟩
    obtain ⟨A5, c5, A6, c6, M, e5, _⟩ := id hv
    rw [e5] at he hv
    subst he
    have hp4 := HP1.out.next hb HP1.out.lt
    have z0 := hp4.c0
    have z1 := hp4.c1
    have y0 := hp4.frozen 0
    have y1 := hp4.frozen 1
    obtain ⟨w5, hw5⟩ : ∃ X, (w4.setCell ⟨w.heap.size, 0, none⟩ (.slice A5 q.1.length c5)).setCell ⟨w.heap.size, 1, none⟩ (.slice A6 q.2.length c6) = X := ⟨_, rfl⟩
    have hp5 : PBox w5 w.heap.size (.slice A5 q.1.length c5) (.slice A6 q.2.length c6) := by rw [← hw5]; exact hp4.set
    have hb5 : Below w.heap.size w4 w5 := by rw [← hw5]; exact ((Below.refl _ _).setCell (p := ⟨w.heap.size, 0, none⟩) (Nat.le_refl _) _).setCell (p := ⟨w.heap.size, 1, none⟩) (Nat.le_refl _) _
    have hv5 : PrV w5 w.heap.size (.agg #[.slice A5 q.1.length c5, .slice A6 q.2.length c6]) q := by
      rw [← hw5]
      have h1 : PBox (w4.setCell ⟨w.heap.size, 0, none⟩ (.slice A5 q.1.length c5)) w.heap.size (.slice A5 q.1.length c5) (.slice none 0 0) := (heap_setCell_same _ _ _ _ _ _ hp4).trans (by simp)
      exact ((hv.from_ HB1.out.size).far hp4).far h1
    have HV5 := Lib.hid hv5
    have HB5 := Lib.hid ((HB1.out.trans (hb.mono HB1.out.size)).trans hb5)
    have q0 := hp5.c0
    have q1 := hp5.c1
    clear hv hb e5 c0 p0 p1 hp4 hp5 hb5 hv5
    go_wp2
    try rw [hw5]
    clear z0 z1 y0 y1 hw5
    refine bodyPost_ret (v := .tuple #[.agg #[.slice A5 q.1.length c5, .slice A6 q.2.length c6], .bool true]) ?_ rfl ⟨_, rfl, HV5.out, HB5.out⟩
    rw [results_cell_tmp rfl]
    simp [go_sem, q0, q1]
  · have hnn : i < 0 ∨ (t.cnt : Int) ≤ i := by rw [← t.len]; omega
    have e1 := atT_none t i hnn
    rw [e1] at HC
    have eP : atP t.list i = ([], []) := by
      unfold atP
      split
      · rw [List.getElem?_eq_none (by omega)]; rfl
      · rfl
    have eI : isP t.list i = false := by unfold isP; exact decide_eq_false g
    unfold AtEnd
    rw [eP, eI]
    have z0 := hp1.c0
    have z1 := hp1.c1
    have y0 := hp1.frozen 0
    have y1 := hp1.frozen 1
    obtain ⟨w5, hw5⟩ : ∃ X, (w1.setCell ⟨w.heap.size, 0, none⟩ (.slice none 0 0)).setCell ⟨w.heap.size, 1, none⟩ (.slice none 0 0) = X := ⟨_, rfl⟩
    have hp5 : PBox w5 w.heap.size (.slice none 0 0) (.slice none 0 0) := by rw [← hw5]; exact hp1.set
    have hb5 : Below w.heap.size w1 w5 := by rw [← hw5]; exact ((Below.refl _ _).setCell (p := ⟨w.heap.size, 0, none⟩) (Nat.le_refl _) _).setCell (p := ⟨w.heap.size, 1, none⟩) (Nat.le_refl _) _
    have HB5 := Lib.hid (HB1.out.trans hb5)
    have q0 := hp5.c0
    have q1 := hp5.c1
    clear hp1 hp5 hb5
    clear h2 h2' h3 hf hR hs hut e1 eP eI hb1 hnn
    go_enter Try.func44, Try.ntmps44
    go_wp2_with fail
    try rw [hw1]
    clear hw1
    refine HT.out.mono ?_
    rintro e w' ⟨rfl, rfl⟩
    go_wp2_with fail
    refine HC.out.mono ?_
    rintro e w' ⟨rfl, rfl⟩
    simp only [Tr.ptr]
    go_wp2
    try rw [hw5]
    clear z0 z1 y0 y1 hw5
    refine bodyPost_ret (v := .tuple #[.agg #[.slice none 0 0, .slice none 0 0], .bool false]) ?_ rfl ⟨_, rfl, prV_zero _ _ HB5.out.size, HB5.out⟩
    rw [results_cell_tmp rfl]
    simp [go_sem, q0, q1]
end Go.Proofs.Ytohpilamoglhcaa
