/-
  CONTRACTS: Seek, Back, Put.
-/
import Derived.Test.YtohpilamoglhcaaQMeth
namespace Go.Proofs.Ytohpilamoglhcaa
open Go.RowKit

set_option maxRecDepth 100000 in
set_option maxHeartbeats 1000000 in
theorem seekM_any [LT Gb] {v : Value} {L : List Pr} {B : Nat} (A : Option Addr) (c : Nat) (k : By) (w : World) (h : TreeV w v L) (hk : SlB w B A k) (hB : B ≤ w.heap.size) :
    Calls Try.prog 40 #[v, .slice A k.length c] w (AtEnd w L ((rankL L k : Nat))) := by
  obtain ⟨w1, hw1⟩ : ∃ X, w.alloc (.cells #[.slice none 0 0, .slice none 0 0] 93) = X := ⟨_, rfl⟩
  have hb1 : Below w.heap.size w w1 := by rw [← hw1]; exact (Below.refl _ _).alloc (Nat.le_refl _) _
  have hp1 : PBox w1 w.heap.size (.slice none 0 0) (.slice none 0 0) := by rw [← hw1]; exact heap_alloc_new w _
  have h1 := h.next hb1
  have hrl := rank_le L k
  have hfw := h.few
  have hrk : rankL L k ≤ 100000 := by omega
  have HR := Lib.hid (rankM_any A c k w1 h1 (hk.next hb1 hB))
  have HC := Lib.hid (atM_any ((rankL L k : Nat)) w1 h1 (by omega) (by omega))
  have HB1 := Lib.hid hb1
  have HP1 := Lib.hid hp1
  obtain ⟨⟨u, t, rfl, _⟩, _, _, _⟩ := h
  clear h1 hk hb1 hp1 hrl hfw
  go_enter Try.func40, Try.ntmps40
  go_wp2_with fail
  try rw [hw1]
  clear hw1
  refine HR.out.mono ?_
  rintro e w' ⟨rfl, rfl⟩
  go_wp2_with fail
  refine HC.out.mono ?_
  rintro e w4 ⟨v4, he, hv, hb⟩
  unfold AtEnd
  obtain ⟨q, hq⟩ : ∃ q, atP L ((rankL L k : Nat)) = q := ⟨_, rfl⟩
  obtain ⟨iv, hiv⟩ : ∃ x, isP L ((rankL L k : Nat)) = x := ⟨_, rfl⟩
  rw [hq] at hv
  rw [hiv] at he
  obtain ⟨A5, c5, A6, c6, M, e5, _⟩ := id hv
  rw [e5] at he hv
  subst he
  have hp4 := HP1.out.next hb HP1.out.lt
  have z0 := hp4.c0
  have z1 := hp4.c1
  have y0 := hp4.frozen 0
  have y1 := hp4.frozen 1
  obtain ⟨w5, hw5⟩ : ∃ X, (w4.setCell ⟨w.heap.size, 0, none⟩ (.slice A5 q.1.length c5)).setCell ⟨w.heap.size, 1, none⟩ (.slice A6 q.2.length c6) = X := ⟨_, rfl⟩
  have hp5 : PBox w5 w.heap.size (.slice A5 q.1.length c5) (.slice A6 q.2.length c6) := by rw [← hw5]; exact hp4.set
  have hb5 : Below w.heap.size w4 w5 := by rw [← hw5]; exact ((Below.refl _ _).setCell (p := ⟨w.heap.size, 0, none⟩) (Nat.le_refl _) _).setCell (p := ⟨w.heap.size, 1, none⟩) (Nat.le_refl _) _
  have hv5 : PrV w5 w.heap.size (.agg #[.slice A5 q.1.length c5, .slice A6 q.2.length c6]) q := by
    rw [← hw5]
    have h1 : PBox (w4.setCell ⟨w.heap.size, 0, none⟩ (.slice A5 q.1.length c5)) w.heap.size (.slice A5 q.1.length c5) (.slice none 0 0) := (heap_setCell_same _ _ _ _ _ _ hp4).trans (by simp)
    exact ((hv.from_ HB1.out.size).far hp4).far h1
  have HV5 := Lib.hid hv5
  have HB5 := Lib.hid ((HB1.out.trans (hb.mono HB1.out.size)).trans hb5)
  have HQ := Lib.hid hq
  have HIV := Lib.hid hiv
  have q0 := hp5.c0
  have q1 := hp5.c1
  clear hv hb e5 hp4 hp5 hb5 hv5 hq hiv
  go_wp2
  try rw [hw5]
  clear z0 z1 y0 y1 hw5
  refine bodyPost_ret (v := .tuple #[.agg #[.slice A5 q.1.length c5, .slice A6 q.2.length c6], .bool iv]) ?_ rfl ⟨_, by rw [HIV.out], by rw [HQ.out]; exact HV5.out, HB5.out⟩
  rw [results_cell_tmp rfl]
  simp [go_sem, q0, q1]
set_option maxRecDepth 100000 in
set_option maxHeartbeats 1000000 in
theorem backM_any [LT Gb] {v : Value} {L : List Pr} {B : Nat} (A : Option Addr) (c : Nat) (k : By) (w : World) (h : TreeV w v L) (hk : SlB w B A k) (hB : B ≤ w.heap.size) :
    Calls Try.prog 43 #[v, .slice A k.length c] w (AtEnd w L (((rankL L k : Nat) : Int) - 1)) := by
  obtain ⟨w1, hw1⟩ : ∃ X, w.alloc (.cells #[.slice none 0 0, .slice none 0 0] 93) = X := ⟨_, rfl⟩
  have hb1 : Below w.heap.size w w1 := by rw [← hw1]; exact (Below.refl _ _).alloc (Nat.le_refl _) _
  have hp1 : PBox w1 w.heap.size (.slice none 0 0) (.slice none 0 0) := by rw [← hw1]; exact heap_alloc_new w _
  have h1 := h.next hb1
  have hrl := rank_le L k
  have hfw := h.few
  have hrk : rankL L k ≤ 100000 := by omega
  have HR := Lib.hid (rankM_any A c k w1 h1 (hk.next hb1 hB))
  have HC := Lib.hid (atM_any (((rankL L k : Nat) : Int) - 1) w1 h1 (by omega) (by omega))
  have HB1 := Lib.hid hb1
  have HP1 := Lib.hid hp1
  obtain ⟨⟨u, t, rfl, _⟩, _, _, _⟩ := h
  clear h1 hk hb1 hp1 hrl hfw
  go_enter Try.func43, Try.ntmps43
  go_wp2_with fail
  try rw [hw1]
  clear hw1
  refine HR.out.mono ?_
  rintro e w' ⟨rfl, rfl⟩
  go_wp2_with fail
  refine HC.out.mono ?_
  rintro e w4 ⟨v4, he, hv, hb⟩
  unfold AtEnd
  obtain ⟨q, hq⟩ : ∃ q, atP L (((rankL L k : Nat) : Int) - 1) = q := ⟨_, rfl⟩
  obtain ⟨iv, hiv⟩ : ∃ x, isP L (((rankL L k : Nat) : Int) - 1) = x := ⟨_, rfl⟩
  rw [hq] at hv
  rw [hiv] at he
  obtain ⟨A5, c5, A6, c6, M, e5, _⟩ := id hv
  rw [e5] at he hv
  subst he
  have hp4 := HP1.out.next hb HP1.out.lt
  have z0 := hp4.c0
  have z1 := hp4.c1
  have y0 := hp4.frozen 0
  have y1 := hp4.frozen 1
  obtain ⟨w5, hw5⟩ : ∃ X, (w4.setCell ⟨w.heap.size, 0, none⟩ (.slice A5 q.1.length c5)).setCell ⟨w.heap.size, 1, none⟩ (.slice A6 q.2.length c6) = X := ⟨_, rfl⟩
  have hp5 : PBox w5 w.heap.size (.slice A5 q.1.length c5) (.slice A6 q.2.length c6) := by rw [← hw5]; exact hp4.set
  have hb5 : Below w.heap.size w4 w5 := by rw [← hw5]; exact ((Below.refl _ _).setCell (p := ⟨w.heap.size, 0, none⟩) (Nat.le_refl _) _).setCell (p := ⟨w.heap.size, 1, none⟩) (Nat.le_refl _) _
  have hv5 : PrV w5 w.heap.size (.agg #[.slice A5 q.1.length c5, .slice A6 q.2.length c6]) q := by
    rw [← hw5]
    have h1 : PBox (w4.setCell ⟨w.heap.size, 0, none⟩ (.slice A5 q.1.length c5)) w.heap.size (.slice A5 q.1.length c5) (.slice none 0 0) := (heap_setCell_same _ _ _ _ _ _ hp4).trans (by simp)
    exact ((hv.from_ HB1.out.size).far hp4).far h1
  have HV5 := Lib.hid hv5
  have HB5 := Lib.hid ((HB1.out.trans (hb.mono HB1.out.size)).trans hb5)
  have HQ := Lib.hid hq
  have HIV := Lib.hid hiv
  have q0 := hp5.c0
  have q1 := hp5.c1
  clear hv hb e5 hp4 hp5 hb5 hv5 hq hiv
  go_wp2
  try rw [hw5]
  clear z0 z1 y0 y1 hw5
  refine bodyPost_ret (v := .tuple #[.agg #[.slice A5 q.1.length c5, .slice A6 q.2.length c6], .bool iv]) ?_ rfl ⟨_, by rw [HIV.out], by rw [HQ.out]; exact HV5.out, HB5.out⟩
  rw [results_cell_tmp rfl]
  simp [go_sem, q0, q1]
set_option maxRecDepth 100000 in
set_option maxHeartbeats 400000 in
theorem putM_no (v : Value) (A A' : Option Addr) (c c' : Nat) (k x : By) (w : World) (hn : 4096 < k.length ∨ 65536 < x.length) :
    Calls Try.prog 15 #[v, .slice A k.length c, .slice A' x.length c'] w fun e w' => e = .returned (.tuple #[.pointer none, .int .i64 100]) ∧ w = w' := by
  by_cases g1 : (4096 : Int) < (k.length : Int)
  · have g1' : decide ((4096 : Int) < (k.length : Int)) = true := decide_eq_true g1
    go_enter Try.func15, Try.ntmps15
    go_wp2
    go_ret2
    exact ⟨rfl, rfl⟩
  · have g1' : decide ((4096 : Int) < (k.length : Int)) = false := decide_eq_false g1
    have g2 : (65536 : Int) < (x.length : Int) := by omega
    have g2' : decide ((65536 : Int) < (x.length : Int)) = true := decide_eq_true g2
    go_enter Try.func15, Try.ntmps15
    go_wp2
    go_ret2
    exact ⟨rfl, rfl⟩
theorem prV_at {w : World} {B : Nat} {A A' : Option Addr} {c c' : Nat} {p : Pr} (h : PrV w B (.agg #[.slice A p.1.length c, .slice A' p.2.length c']) p) : SlB w w.heap.size A p.1 ∧ SlB w w.heap.size A' p.2 := by
  obtain ⟨A1, c1, A2, c2, M, e, h1, h2, _⟩ := h
  cases e
  exact ⟨(SlB.of_own h1).2, (SlB.of_own h2).2⟩
theorem own_typed {w : World} {B n c : Nat} {a : Addr} {l : By} (h : OwnB w B (.slice (some a) n c) l) : ∃ cs fr, w.heap[a.block]? = some (.cells cs 5 fr) := by
  rcases h.2 with ⟨e, _⟩ | ⟨g, cap, cur, e, _, hg, _⟩
  · cases e
  · injection e with e
    injection e with e
    subst e
    exact ⟨_, _, hg⟩
/-- where the bytes of such a pair lie -/
theorem prV_from {w : World} {B : Nat} {A A' : Option Addr} {c c' : Nat} {p : Pr} (h : PrV w B (.agg #[.slice A p.1.length c, .slice A' p.2.length c']) p) : (p.1 ≠ [] → ∀ a, A = some a → B ≤ a.block ∧ ∃ cs fr, w.heap[a.block]? = some (.cells cs 5 fr)) ∧ (p.2 ≠ [] → ∀ a, A' = some a → B ≤ a.block ∧ ∃ cs fr, w.heap[a.block]? = some (.cells cs 5 fr)) := by
  obtain ⟨A1, c1, A2, c2, M, e, h1, h2, h3, _⟩ := h
  cases e
  refine ⟨fun _ a ea => ?_, fun _ a ea => ?_⟩
  · subst ea
    exact ⟨(World.ownsRow.lt h1 a.block rfl).1, own_typed h1⟩
  · subst ea
    exact ⟨Nat.le_trans h3 (World.ownsRow.lt h2 a.block rfl).1, own_typed h2⟩
set_option maxRecDepth 100000 in
set_option maxHeartbeats 1000000 in
theorem putM_any [LT Gb] {v : Value} {L : List Pr} (A A' : Option Addr) (c c' : Nat) (k x : By) (w : World) (h : TreeV w v L) (hk : SlB w w.heap.size A k) (hx : SlB w w.heap.size A' x) (hc : k.length ≤ 4096) (hd : x.length ≤ 65536) (hL : L.length < 100000) (hG : ∀ b, w.heap.size ≤ b → goodB b) :
    Calls Try.prog 15 #[v, .slice A k.length c, .slice A' x.length c'] w fun e w' => ∃ v', e = .returned (.tuple #[v', .int .i64 0]) ∧ NewT w (putL L (k, x)) v' w' := by
  have HG := Lib.hid hG
  clear hG
  have HLN := Lib.hid (len_any w h)
  have HOW := Lib.hid (own_any A A' c c' (k, x) w hk hx (by show k.length ≤ _; omega) (by show x.length ≤ _; omega))
  obtain ⟨⟨u, t, rfl, h2, h3, rfl⟩, hR, hs, hf⟩ := h
  have HT := Lib.hid (fun X (hX : Below w.heap.size w X) => top_any (u := u) (t := t) X (by
    rcases h2 with h2 | ⟨b, e, h2⟩
    · exact .inl h2
    · exact .inr ⟨b, e, (hX.block b (Array.getElem?_eq_some_iff.1 h2).1).trans h2⟩))
  have HP := Lib.hid (fun pb X (hX : Below w.heap.size w X) (hp : PairAt X pb (k, x)) => put_any pb (k, x) t X (h3.next hX) hp hR (by rw [t.len] at hf; omega))
  have HF : Hid (∀ (t' : Tr) (w1 : World), TreeAt w1 t' → t'.list = putL t.list (k, x) → Below w.heap.size w w1 → NewT w (putL t.list (k, x)) (.pointer (some ⟨w1.heap.size, 0, none⟩)) (w1.alloc (.cells #[t'.ptr] 50))) :=
    fun t' w1 h1 h4 hb => newT_mk h1 h4 hb (rise_put hR _) (fun q hq => by
      rcases mem_put.1 hq with rfl | ⟨hq, _⟩
      · exact ⟨by show k.length ≤ _; omega, by show x.length ≤ _; omega⟩
      · exact hs q hq) (by have := put_len t.list (k, x); omega)
  have g0 : decide ((4096 : Int) < (k.length : Int)) = false := decide_eq_false (by omega)
  have g1 : decide ((65536 : Int) < (x.length : Int)) = false := decide_eq_false (by omega)
  have g2 : decide ((1048576 : Int) ≤ (t.list.length : Int)) = false := decide_eq_false (by omega)
  have g0' : ¬ (4096 : Int) < (k.length : Int) := by omega
  have g1' : ¬ (65536 : Int) < (x.length : Int) := by omega
  have g2' : ¬ (1048576 : Int) ≤ (t.list.length : Int) := by omega
  clear h2 h3 hR hs hf hk hx
  obtain ⟨ut, hut⟩ := t.ptr_pointer
  rw [hut] at HT HP
  clear hut
  go_enter Try.func15, Try.ntmps15
  go_wp2_with fail
  refine HLN.out.mono ?_
  rintro e w' ⟨rfl, rfl⟩
  go_wp2_with fail
  refine HOW.out.mono ?_
  rintro e w5 ⟨v5, he, hv, hb⟩
  obtain ⟨A5, c5, A6, c6, M, e5, _⟩ := id hv
  rw [e5] at he hv
  subst he
  simp only at hv
  have hsb := prV_at (p := (k, x)) hv
  have hsg := prV_from (p := (k, x)) hv
  obtain ⟨w6, hw6⟩ : ∃ X, w5.alloc (.cells #[.slice A5 k.length c5, .slice A6 x.length c6] 93) = X := ⟨_, rfl⟩
  have hb6 : Below w5.heap.size w5 w6 := by rw [← hw6]; exact (Below.refl _ _).alloc (Nat.le_refl _) _
  have up6 : ∀ {b : Nat}, (∃ cs fr, w5.heap[b]? = some (.cells cs 5 fr)) → ∃ cs fr, w6.heap[b]? = some (.cells cs 5 fr) := fun ⟨cs, fr, h⟩ => ⟨cs, fr, (hb6.block _ (Array.getElem?_eq_some_iff.1 h).1).trans h⟩
  have hpa : PairAt w6 w5.heap.size (k, x) := ⟨A5, c5, A6, c6, by rw [← hw6]; exact heap_alloc_new w5 _, ⟨slB_up hsb.1 hb6, fun h0 a e => ⟨HG.out _ ((hsg.1 h0 a e).1), up6 (hsg.1 h0 a e).2⟩⟩, ⟨slB_up hsb.2 hb6, fun h0 a e => ⟨HG.out _ ((hsg.2 h0 a e).1), up6 (hsg.2 h0 a e).2⟩⟩⟩
  have HB6 := Lib.hid (hb.trans (hb6.mono hb.size))
  have HPP := Lib.hid (HP.out w5.heap.size w6 HB6.out hpa)
  clear hv hb e5 hsb hsg hb6 hpa up6 HP HOW HLN
  go_wp2_with fail
  try rw [hw6]
  clear hw6
  refine (HT.out _ HB6.out).mono ?_
  rintro e w' ⟨rfl, rfl⟩
  go_wp2_with fail
  refine HPP.out.mono ?_
  rintro e w7 ⟨t', rfl, ht, hl, hb⟩
  have HN := HF.out t' w7 ht hl (HB6.out.trans (hb.mono HB6.out.size))
  obtain ⟨u', hu'⟩ := t'.ptr_pointer
  rw [hu'] at HN ⊢
  have HNN := Lib.hid HN
  clear HN hu' ht hl hb
  go_wp2
  go_ret2
  exact ⟨_, rfl, HNN.out⟩
end Go.Proofs.Ytohpilamoglhcaa
