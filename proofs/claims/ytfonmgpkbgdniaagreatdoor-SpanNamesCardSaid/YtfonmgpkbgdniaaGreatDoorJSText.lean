/-
  CONTRACT: Text (the program's).
-/
import Derived.Lib.SmallJoins
import Derived.Test.YtfonmgpkbgdniaaGreatDoorJSTime
namespace Go.Proofs.YtfonmgpkbgdniaaGreatDoor
open Go.RowKit Go.Shelf

def TxBox (W : World) (b : Nat) (s : Sp) : Prop := W.heap[b]? = some (.cells #[.int .i64 s.1, .int .i64 s.2] 23)
theorem TxBox.c0 {W : World} {b : Nat} {s : Sp} (h : TxBox W b s) : W.cell? ⟨b, 0, none⟩ = some (.int .i64 s.1) := by
  unfold TxBox at h; simp [World.cell?, h]
theorem TxBox.c1 {W : World} {b : Nat} {s : Sp} (h : TxBox W b s) : W.cell? ⟨b, 1, none⟩ = some (.int .i64 s.2) := by
  unfold TxBox at h; simp [World.cell?, h]
theorem TxBox.next {W W' : World} {b : Nat} {s : Sp} (h : TxBox W b s) (ho : Lib.OthersKept 5 none W W') : TxBox W' b s :=
  ho b _ h (by simp) (fun c fz e => by injection e with _ e2 _; exact absurd e2 (by decide))
theorem txBox_new (W : World) (x y : Int) : TxBox (W.alloc (.cells #[.int .i64 x, .int .i64 y] 23)) W.heap.size (x, y) := heap_alloc_new W _
theorem body_more {l : List Sp} {j : Nat} {s : Sp} (h : l[j]? = some s) : bodyT (l.take (j + 1)) = (if j = 0 then [] else bodyT (l.take j) ++ [32]) ++ oneT s := by
  obtain ⟨hj, he⟩ := List.getElem?_eq_some_iff.1 h
  have ht : l.take (j + 1) = l.take j ++ [s] := by rw [List.take_add_one, h]; rfl
  rw [ht]
  by_cases h0 : j = 0
  · subst h0; simp [bodyT]
  · rw [if_neg h0, bodyT_snoc _ _ (by
      intro e
      have := congrArg List.length e
      rw [List.length_take, List.length_nil] at this
      omega)]
    simp
theorem own_blank {W : World} {B : Nat} {v : Value} {L : List UInt8} (h : W.ownsRow B 5 1 v (L.length + 1) (cellsL L ++ cellsL [32])) : OwnB W B v (L ++ [32]) := by
  rw [← cellsL_app] at h
  unfold OwnB
  rw [List.length_append]
  exact h
theorem one_parts (L : List UInt8) (s : Sp) : ((((L ++ [91]) ++ endT s.1) ++ [44]) ++ endT s.2) ++ [41] = L ++ oneT s := by simp [oneT]

set_option maxRecDepth 100000 in
set_option maxHeartbeats 2000000 in
theorem textS_yes (A : Option Addr) (c : Nat) (l : List Sp) (w : World) (hs : SlS w w.heap.size A l) (hl : l.length ≤ 6000) (hok : AllOk l) (htab : TabB w.heap.size w) (hset : setB l = true) (hne : l ≠ []) :
    Calls Tryz.prog 7 #[.slice A l.length c] w fun e w' => e = .returned (.tuple #[.string ⟨(bodyT l).toArray⟩, .int .i64 0]) ∧ Below w.heap.size w w' := by
  obtain ⟨i0, hi, hz0, hz1, hz2⟩ := info_parts info8
  have hmx : 500000 ≤ maxLen := by decide
  have HS := Lib.hid hs
  have HOK := Lib.hid hok
  have HT := Lib.hid htab
  have hI := isSet_any A c l w hs (by omega)
  rw [hset] at hI
  have HI := Lib.hid hI
  have hl0 : ((l.length : Int) == 0) = false := by
    rw [beq_eq_false_iff_ne]
    intro e
    exact hne (List.length_eq_zero_iff.1 (by omega))
  clear hs hok htab hset hne hI
  go_enter Tryz.func7, Tryz.ntmps7
  go_wp2_with fail
  refine HI.out.mono ?_
  rintro e w1 ⟨rfl, hb1⟩
  have HB1 := Lib.hid hb1
  clear hb1
  go_wp2_with fail
  clear hl0
  go_loopg [4, 15] l.length (fun g v z wr => ∃ (j : Nat), z = .int .i64 j ∧ j + g = l.length ∧ Hid (OwnB wr w.heap.size v (bodyT (l.take j))) ∧ Hid (Below w.heap.size w wr))
  case atStart => exact ⟨0, rfl, by omega, ownB_nil _ _, HB1.out⟩
  case round =>
    obtain ⟨j, rfl, hj, HO, HB⟩ := hrel
    cases gk with
    | zero =>
      have hjz : ¬ ((j : Int) < (l.length : Int)) := by omega
      have hle : l.take j = l := List.take_of_length_le (by omega)
      have hcv := ownB_string wr _ _ _ HO.out
      rw [hle] at hcv
      go_wp2
      go_ret2
      exact ⟨rfl, HB.out⟩
    | succ g =>
      have hjz : (j : Int) < (l.length : Int) := by omega
      have hjn : j < l.length := by omega
      have hsr := HS.out.next HB.out (Nat.le_refl _)
      obtain ⟨b, o, hA, _, hp⟩ := hsr.at_ hjn
      obtain ⟨s, hse⟩ : ∃ s, l[j] = s := ⟨_, rfl⟩
      have hsg : l[j]? = some s := by rw [List.getElem?_eq_getElem hjn, hse]
      rw [hse] at hp
      have HM := Lib.hid (body_more hsg)
      have HSO := Lib.hid (HOK.out s (List.mem_of_getElem? hsg))
      have hlen : (bodyT (l.take j)).length ≤ 276000 := by
        refine Nat.le_trans (bodyT_len (fun x hx => HOK.out x (List.mem_of_mem_take hx))) ?_
        rw [List.length_take]; omega
      have c0 := hp.c0
      have c1 := hp.c1
      have HA := Lib.hid hA
      subst hA
      clear hp hse hsg hsr
      obtain ⟨x, y⟩ := s
      have HX := Lib.hid (txBox_new wr x y)
      have HBA := Lib.hid (HB.out.alloc HB.out.size (.cells #[.int .i64 x, .int .i64 y] 23))
      have HOA := Lib.hid (HO.out.alloc (.cells #[.int .i64 x, .int .i64 y] 23))
      have hl1 := (endT_len HSO.out.1).2
      have hl2 := (endT_len HSO.out.2).2
      clear HO
      obtain ⟨L0, hL0⟩ : ∃ L, bodyT (l.take j) = L := ⟨_, rfl⟩
      rw [hL0] at HM HOA hlen
      have HLZ : Hid (j = 0 → L0 ++ oneT (x, y) = bodyT (l.take (j + 1))) := fun e => by
        rw [HM.out, if_pos e]; rw [← hL0, e]; rfl
      have HLS : Hid (j ≠ 0 → (L0 ++ [32]) ++ oneT (x, y) = bodyT (l.take (j + 1))) := fun e => by
        rw [HM.out, if_neg e]
      clear hL0 HM
      cases j with
      | zero =>
        have HLF := Lib.hid (HLZ.out rfl)
        clear HLZ HLS
        simp only [Nat.zero_mul, Nat.add_zero] at c0 c1
        go_wp2_with (at_builtin; refine Lib.wpList_append_own_string _ rfl _ _ 39 9 rfl w.heap.size 5 i0 Tryz.underlying39 Tryz.underlying9 hi hz0 hz1 hz2 _ _ _ rfl HOA.out ⟨#[91]⟩ rfl (by show _ + 1 ≤ _; (try simp only [List.length_append, List.length_cons, List.length_nil]); omega) (by show _ + 1 ≤ _; (try simp only [List.length_append, List.length_cons, List.length_nil]); omega) HBA.out.size ?_; intro va wa hown' hgrow _; have HOa := Lib.hid (own_more hown'); have HXa := Lib.hid (HX.out.next (others_own HOA.out hgrow)); have HBa := Lib.hid (HBA.out.trans (below_own HOA.out hgrow HBA.out.size)); have d0 := HXa.out.c0; have d1 := HXa.out.c1; clear hown' hgrow)
        refine (appendTime_any w.heap.size _ _ _ _ HOa.out (by (try simp only [List.length_append, List.length_cons, List.length_nil]); omega) HBa.out.size HSO.out.1 (HT.out.on HBa.out)).mono ?_
        rintro e w3 ⟨v3, rfl, ho3, hb3, hk3⟩
        have HO3 := Lib.hid ho3
        have HX3 := Lib.hid (HXa.out.next hk3)
        have HB3 := Lib.hid (HBa.out.trans hb3)
        have f0 := HX3.out.c0
        have f1 := HX3.out.c1
        clear ho3 hb3 hk3
        clear d0 d1 HOa HXa HBa
        go_wp2_with (at_builtin; refine Lib.wpList_append_own_string _ rfl _ _ 39 9 rfl w.heap.size 5 i0 Tryz.underlying39 Tryz.underlying9 hi hz0 hz1 hz2 _ _ _ rfl HO3.out ⟨#[44]⟩ rfl (by show _ + 1 ≤ _; (try simp only [List.length_append, List.length_cons, List.length_nil]); omega) (by show _ + 1 ≤ _; (try simp only [List.length_append, List.length_cons, List.length_nil]); omega) HB3.out.size ?_; intro va wa hown' hgrow _; have HOa := Lib.hid (own_more hown'); have HXa := Lib.hid (HX3.out.next (others_own HO3.out hgrow)); have HBa := Lib.hid (HB3.out.trans (below_own HO3.out hgrow HB3.out.size)); have d0 := HXa.out.c0; have d1 := HXa.out.c1; clear hown' hgrow)
        clear f0 f1
        refine (appendTime_any w.heap.size _ _ _ _ HOa.out (by (try simp only [List.length_append, List.length_cons, List.length_nil]); omega) HBa.out.size HSO.out.2 (HT.out.on HBa.out)).mono ?_
        rintro e w4 ⟨v4, rfl, ho4, hb4, hk4⟩
        have HO4 := Lib.hid ho4
        have HX4 := Lib.hid (HXa.out.next hk4)
        have HB4 := Lib.hid (HBa.out.trans hb4)
        have f0 := HX4.out.c0
        have f1 := HX4.out.c1
        clear ho4 hb4 hk4
        clear d0 d1 HOa HXa HBa
        go_wp2_with (at_builtin; refine Lib.wpList_append_own_string _ rfl _ _ 39 9 rfl w.heap.size 5 i0 Tryz.underlying39 Tryz.underlying9 hi hz0 hz1 hz2 _ _ _ rfl HO4.out ⟨#[41]⟩ rfl (by show _ + 1 ≤ _; (try simp only [List.length_append, List.length_cons, List.length_nil]); omega) (by show _ + 1 ≤ _; (try simp only [List.length_append, List.length_cons, List.length_nil]); omega) HB4.out.size ?_; intro va wa hown' hgrow _; have HOa := Lib.hid (own_more hown'); have HXa := Lib.hid (HX4.out.next (others_own HO4.out hgrow)); have HBa := Lib.hid (HB4.out.trans (below_own HO4.out hgrow HB4.out.size)); have d0 := HXa.out.c0; have d1 := HXa.out.c1; clear hown' hgrow)
        go_roundg g
        case rel => exact ⟨0 + 1, rfl, by omega, (by show OwnB _ _ _ _; rw [← (one_parts L0 (x, y)).trans HLF.out]; exact HOa.out), HBa.out⟩
        case measure => omega
      | succ k =>
        have hk0 : (0 : Int) < (k : Int) + 1 := by omega
        have HLF := Lib.hid (HLS.out (by omega))
        clear HLZ HLS
        go_wp2_with (first | (at_builtin; refine wpList_append_own _ rfl _ _ 39 rfl w.heap.size 5 i0 (.int .u8 0) 1 1 Tryz.underlying39 hi hz0 hz1 hz2 rfl (by decide) _ _ _ rfl (HOA.out.alloc _) ⟨wr.heap.size + 1, 0, none⟩ 1 1 (cellsL [32]) rfl rfl (fun j u h => by have q := cell_lit (wr.alloc (.cells #[.int .i64 x, .int .i64 y] 23)) #[.int .u8 32] 5 j u h; rw [World.size_alloc] at q; exact q) (cellsL_one _) (by omega) (by omega) (by have := HBA.out.size; simp at this ⊢; omega) ?_; intro vb wb hownb hgrowb _; have HOb := Lib.hid (own_blank hownb); have HXb := Lib.hid (TxBox.next (HX.out.next ((Lib.OthersKept.refl _ _ _).alloc _)) (others_own (HOA.out.alloc _) hgrowb)); have HBb := Lib.hid ((HBA.out.alloc HBA.out.size _).trans (below_own (HOA.out.alloc _) hgrowb (by have := HBA.out.size; simp at this ⊢; omega))); clear hownb hgrowb) | (at_builtin; refine Lib.wpList_append_own_string _ rfl _ _ 39 9 rfl w.heap.size 5 i0 Tryz.underlying39 Tryz.underlying9 hi hz0 hz1 hz2 _ _ _ rfl HOb.out ⟨#[91]⟩ rfl (by show _ + 1 ≤ _; (try simp only [List.length_append, List.length_cons, List.length_nil]); omega) (by show _ + 1 ≤ _; (try simp only [List.length_append, List.length_cons, List.length_nil]); omega) HBb.out.size ?_; intro va wa hown' hgrow _; have HOa := Lib.hid (own_more hown'); have HXa := Lib.hid (HXb.out.next (others_own HOb.out hgrow)); have HBa := Lib.hid (HBb.out.trans (below_own HOb.out hgrow HBb.out.size)); have d0 := HXa.out.c0; have d1 := HXa.out.c1; clear hown' hgrow))
        refine (appendTime_any w.heap.size _ _ _ _ HOa.out (by (try simp only [List.length_append, List.length_cons, List.length_nil]); omega) HBa.out.size HSO.out.1 (HT.out.on HBa.out)).mono ?_
        rintro e w3 ⟨v3, rfl, ho3, hb3, hk3⟩
        have HO3 := Lib.hid ho3
        have HX3 := Lib.hid (HXa.out.next hk3)
        have HB3 := Lib.hid (HBa.out.trans hb3)
        have f0 := HX3.out.c0
        have f1 := HX3.out.c1
        clear ho3 hb3 hk3
        clear d0 d1 HOa HXa HBa
        go_wp2_with (at_builtin; refine Lib.wpList_append_own_string _ rfl _ _ 39 9 rfl w.heap.size 5 i0 Tryz.underlying39 Tryz.underlying9 hi hz0 hz1 hz2 _ _ _ rfl HO3.out ⟨#[44]⟩ rfl (by show _ + 1 ≤ _; (try simp only [List.length_append, List.length_cons, List.length_nil]); omega) (by show _ + 1 ≤ _; (try simp only [List.length_append, List.length_cons, List.length_nil]); omega) HB3.out.size ?_; intro va wa hown' hgrow _; have HOa := Lib.hid (own_more hown'); have HXa := Lib.hid (HX3.out.next (others_own HO3.out hgrow)); have HBa := Lib.hid (HB3.out.trans (below_own HO3.out hgrow HB3.out.size)); have d0 := HXa.out.c0; have d1 := HXa.out.c1; clear hown' hgrow)
        clear f0 f1
        refine (appendTime_any w.heap.size _ _ _ _ HOa.out (by (try simp only [List.length_append, List.length_cons, List.length_nil]); omega) HBa.out.size HSO.out.2 (HT.out.on HBa.out)).mono ?_
        rintro e w4 ⟨v4, rfl, ho4, hb4, hk4⟩
        have HO4 := Lib.hid ho4
        have HX4 := Lib.hid (HXa.out.next hk4)
        have HB4 := Lib.hid (HBa.out.trans hb4)
        have f0 := HX4.out.c0
        have f1 := HX4.out.c1
        clear ho4 hb4 hk4
        clear d0 d1 HOa HXa HBa
        go_wp2_with (at_builtin; refine Lib.wpList_append_own_string _ rfl _ _ 39 9 rfl w.heap.size 5 i0 Tryz.underlying39 Tryz.underlying9 hi hz0 hz1 hz2 _ _ _ rfl HO4.out ⟨#[41]⟩ rfl (by show _ + 1 ≤ _; (try simp only [List.length_append, List.length_cons, List.length_nil]); omega) (by show _ + 1 ≤ _; (try simp only [List.length_append, List.length_cons, List.length_nil]); omega) HB4.out.size ?_; intro va wa hown' hgrow _; have HOa := Lib.hid (own_more hown'); have HXa := Lib.hid (HX4.out.next (others_own HO4.out hgrow)); have HBa := Lib.hid (HB4.out.trans (below_own HO4.out hgrow HB4.out.size)); have d0 := HXa.out.c0; have d1 := HXa.out.c1; clear hown' hgrow)
        go_roundg g
        case rel => exact ⟨k + 1 + 1, by go_num, by omega, (by show OwnB _ _ _ _; rw [← (one_parts (L0 ++ [32]) (x, y)).trans HLF.out]; exact HOa.out), HBa.out⟩
        case measure => omega

set_option maxRecDepth 100000 in
theorem textS_no (A : Option Addr) (c : Nat) (l : List Sp) (w : World) (hs : SlS w w.heap.size A l) (hl : l.length ≤ 6000) (hset : setB l = false) :
    Calls Tryz.prog 7 #[.slice A l.length c] w fun e w' => e = .returned (.tuple #[.string ⟨#[]⟩, .int .i64 30]) ∧ Below w.heap.size w w' := by
  have hI := isSet_any A c l w hs (by omega)
  rw [hset] at hI
  have HI := Lib.hid hI
  clear hs hset hI
  go_enter Tryz.func7, Tryz.ntmps7
  go_wp2_with fail
  refine HI.out.mono ?_
  rintro e w1 ⟨rfl, hb1⟩
  go_wp2
  go_ret2
  exact ⟨rfl, hb1⟩
set_option maxRecDepth 100000 in
theorem textS_nil (A : Option Addr) (c : Nat) (w : World) :
    Calls Tryz.prog 7 #[.slice A 0 c] w fun e w' => e = .returned (.tuple #[.string ⟨(textT []).toArray⟩, .int .i64 0]) ∧ Below w.heap.size w w' := by
  have hI := isSet_any A c [] w (fun h => absurd rfl h) (by decide)
  have hset : setB [] = true := decide_eq_true setL_nil
  rw [hset] at hI
  have HI := Lib.hid hI
  clear hset hI
  go_enter Tryz.func7, Tryz.ntmps7
  go_wp2_with fail
  refine HI.out.mono ?_
  rintro e w1 ⟨rfl, hb1⟩
  go_wp2
  go_ret2
  exact ⟨rfl, hb1⟩
/-- What Text answers. -/
def TextRd (l : List Sp) (e : Ending) : Prop := (SetL l ∧ e = .returned (.tuple #[.string ⟨(textT l).toArray⟩, .int .i64 0])) ∨ (¬ SetL l ∧ e = .returned (.tuple #[.string ⟨#[]⟩, .int .i64 30]))
theorem textS_any (A : Option Addr) (c : Nat) (l : List Sp) (w : World) (hs : SlS w w.heap.size A l) (hl : l.length ≤ 6000) (hok : AllOk l) (htab : TabB w.heap.size w) :
    Calls Tryz.prog 7 #[.slice A l.length c] w fun e w' => TextRd l e ∧ Below w.heap.size w w' := by
  by_cases hn : l = []
  · subst hn
    exact (textS_nil A c w).mono fun e w' ⟨h, hb⟩ => ⟨.inl ⟨setL_nil, h⟩, hb⟩
  · cases hset : setB l
    · exact (textS_no A c l w hs hl hset).mono fun e w' ⟨h, hb⟩ => ⟨.inr ⟨of_decide_eq_false hset, h⟩, hb⟩
    · refine (textS_yes A c l w hs hl hok htab hset hn).mono fun e w' ⟨h, hb⟩ => ⟨.inl ⟨of_decide_eq_true hset, ?_⟩, hb⟩
      rw [h]; unfold textT; rw [if_neg hn]
end Go.Proofs.YtfonmgpkbgdniaaGreatDoor
