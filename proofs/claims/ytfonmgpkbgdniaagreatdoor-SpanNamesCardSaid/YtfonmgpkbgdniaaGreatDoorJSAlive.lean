/-
  CONTRACTS: Make (of spans that may be); alive (the chapter's first example).
-/
import Derived.Laws.StructEq
import Derived.Test.YtfonmgpkbgdniaaGreatDoorJSMake
namespace Go.Proofs.YtfonmgpkbgdniaaGreatDoor
open Go.RowKit Go.Shelf

def mkL (l : List Sp) : List Sp := l.foldl addL []
theorem fold_add : ∀ (l acc : List Sp), SetL acc → (∀ q ∈ acc, ∀ s ∈ l, q.1 ≤ s.1) → RiseS l → (∀ s ∈ l, s.1 < s.2) → SetL (l.foldl addL acc) ∧ ∀ t, Inn (l.foldl addL acc) t ↔ Inn acc t ∨ Inn l t
  | [], acc, h, _, _, _ => ⟨h, fun t => by simp [inn_nil]⟩
  | s :: l, acc, h, hq, hr, hv => by
    obtain ⟨h1, h2, h3⟩ := addL_set h (hv s (by simp)) (fun q hm => hq q hm s (by simp))
    have hr' := List.pairwise_cons.1 hr
    obtain ⟨k1, k2⟩ := fold_add l (addL acc s) h1 (fun q hm s' hs' => Int.le_trans (h3 q hm) (hr'.1 s' hs')) hr'.2 (fun s' hs' => hv s' (by simp [hs']))
    refine ⟨k1, fun t => ?_⟩
    show Inn (l.foldl addL (addL acc s)) t ↔ _
    rw [k2 t, h2 t, inn_cons, or_assoc]
theorem mkL_set {l : List Sp} (hr : RiseS l) (hv : ∀ s ∈ l, s.1 < s.2) : SetL (mkL l) ∧ ∀ t, Inn (mkL l) t ↔ Inn l t := by
  obtain ⟨h1, h2⟩ := fold_add l [] setL_nil (fun _ h => by cases h) hr hv
  exact ⟨h1, fun t => by rw [show mkL l = l.foldl addL [] from rfl, h2 t]; simp [inn_nil]⟩
theorem mkL_take {l : List Sp} {j : Nat} (h : j < l.length) : mkL (l.take (j + 1)) = addL (mkL (l.take j)) l[j] := by
  unfold mkL
  rw [List.take_succ_eq_append_getElem h, List.foldl_append]; rfl
theorem mkL_len : ∀ (l acc : List Sp), (l.foldl addL acc).length ≤ acc.length + l.length
  | [], _ => Nat.le_refl _
  | s :: l, acc => by
    have h1 := mkL_len l (addL acc s)
    have h2 := addL_len acc s
    rw [List.foldl_cons, List.length_cons]
    omega
theorem inn_perm {a b : List Sp} (h : a.Perm b) (t : Int) : Inn a t ↔ Inn b t := by
  unfold Inn
  constructor
  · rintro ⟨s, hs, k⟩; exact ⟨s, h.mem_iff.1 hs, k⟩
  · rintro ⟨s, hs, k⟩; exact ⟨s, h.mem_iff.2 hs, k⟩

theorem OwnS.base {W : World} {B B' : Nat} {v : Value} {l : List Sp} (h : OwnS W B v l) (hB : B' ≤ B) : OwnS W B' v l := by
  obtain ⟨h1, h2⟩ := (show W.ownsRow B _ _ _ _ _ from h)
  refine ⟨h1, ?_⟩
  rcases h2 with h2 | ⟨g, cap, cur, e, hb, r⟩
  · exact .inl h2
  · exact .inr ⟨g, cap, cur, e, by omega, r⟩
/-- What Make answers. -/
def MakeEnd (W : World) (l : List Sp) (e : Ending) (W' : World) : Prop :=
  ∃ r v, SetL r ∧ (∀ t, Inn r t ↔ Inn l t) ∧ e = .returned (.tuple #[v, .int .i64 0]) ∧ OwnS W' W.heap.size v r ∧ Below W.heap.size W W'

set_option maxRecDepth 100000 in
set_option maxHeartbeats 2000000 in
theorem make_ok (A : Option Addr) (c : Nat) (l : List Sp) (w : World) (hs : SlS w w.heap.size A l) (hl : l.length ≤ 5000) (hv : ∀ s ∈ l, s.1 < s.2) :
    Calls Tryz.prog 20 #[.slice A l.length c] w (MakeEnd w l) := by
  have HS := Lib.hid hs
  have HV := Lib.hid hv
  clear hs hv
  go_enter Tryz.func20, Tryz.ntmps20
  go_wp2
  go_loopg [5, 13] l.length (fun g _ z wr => ∃ j : Nat, z = .int .i64 j ∧ j + g = l.length ∧ Hid (Below w.heap.size w wr))
  case atStart => exact ⟨0, rfl, by omega, Below.refl _ _⟩
  case round =>
    obtain ⟨j, rfl, hj, HB⟩ := hrel
    cases gk with
    | succ g =>
      have hjz : (j : Int) < (l.length : Int) := by omega
      have hjn : j < l.length := by omega
      obtain ⟨b, o, rfl, _, hp⟩ := (HS.out.next HB.out (Nat.le_refl _)).at_ hjn
      have hvj := HV.out _ (List.getElem_mem hjn)
      obtain ⟨⟨x, y⟩, hse⟩ : ∃ s, l[j] = s := ⟨_, rfl⟩
      rw [hse] at hp hvj
      have c0 := hp.c0
      have c1 := hp.c1
      have HM := Lib.hid (show decide (x < y) = true from decide_eq_true hvj)
      have hbz := HB.out.size
      clear hp hse hvj
      go_wp2_with fail
      refine (spMay_is x y true HM.out _).mono ?_
      rintro e w9 ⟨rfl, hb9⟩
      have HB9 := Lib.hid ((HB.out.alloc hbz (.cells #[.int .i64 x, .int .i64 y] 23)).trans (hb9.mono (by simp; omega)))
      clear hb9 c0 c1
      go_wp2
      go_roundg g
      case measure => omega
      case rel => exact ⟨j + 1, by go_num, by omega, HB9.out⟩
    | zero =>
      have hjz : ¬ ((j : Int) < (l.length : Int)) := by omega
      have hbz := HB.out.size
      have hb2 := HB.out.alloc hbz (.cells #[.slice A l.length c] 24)
      have HB2 := Lib.hid hb2
      have hbx := Boxed.new wr 24 (.slice A l.length c)
      have HBX := Lib.hid hbx
      clear hb2 hbx
      go_wp2_with fail
      refine (valuesOf_any A l.length c _).mono ?_
      rintro e w9 ⟨rfl, rfl⟩
      go_wp2_with fail
      refine (sortedF_all wr.heap.size A c l _ HBX.out.lt ((HS.out.next HB2.out (Nat.le_refl _)).more HB2.out.size) (by omega) HBX.out.cell).mono ?_
      rintro e w3 ⟨A3, c3, l3, rfl, hs3, hp3, hr3, hb3⟩
      have HP3 := Lib.hid hp3
      have HR3 := Lib.hid hr3
      have HB3 := Lib.hid (HB2.out.trans (hb3.mono HB2.out.size))
      have hl3 : l3.length = l.length := hp3.length_eq
      have HL3 := Lib.hid hl3
      have HS3 := Lib.hid hs3
      have hl9 : l3.length ≤ 5000 := by omega
      have HBS := Lib.hid (Boxed.new w3 24 (.slice none 0 0))
      clear hs3 hp3 hr3 hb3 hl3
      go_wp2_with fail
      refine (adderOf_any _ _).mono ?_
      rintro e w9 ⟨rfl, rfl⟩
      obtain ⟨w4, hw4⟩ : ∃ w4, (w3.alloc (.cells #[.slice none 0 0] 24)).alloc (.cells #[.pointer (some ⟨w3.heap.size, 0, none⟩)] 50) = w4 := ⟨_, rfl⟩
      have hz3 := HB3.out.size
      have HB4 : Hid (Below w.heap.size w w4) := by rw [← hw4]; exact (HB3.out.alloc hz3 _).alloc (by simp; omega) _
      have HS4 : Hid (SlS w4 w3.heap.size A3 l3) := by rw [← hw4]; exact HS3.out.next (((Below.refl _ _).alloc (Nat.le_refl _) _).alloc (by simp) _) (Nat.le_refl _)
      have HX4 : Hid (Boxed w4 w3.heap.size 24 (.slice none 0 0)) := by rw [← hw4]; exact HBS.out.alloc _
      have HY4 : Hid (Boxed w4 (w3.heap.size + 1) 50 (.pointer (some ⟨w3.heap.size, 0, none⟩))) := by
        rw [← hw4]
        have := Boxed.new (w3.alloc (.cells #[.slice none 0 0] 24)) 50 (.pointer (some ⟨w3.heap.size, 0, none⟩))
        rwa [World.size_alloc] at this
      have hz4 : w4.heap.size = w3.heap.size + 2 := by rw [← hw4]; simp
      rw [hw4]
      clear hw4
      go_wp2
      go_loopg [10, 27] l3.length (fun g _ z wr => ∃ (k : Nat) (v : Value), z = .int .i64 k ∧ k + g = l3.length ∧ Hid (Boxed wr w3.heap.size 24 v) ∧ Hid (OwnS wr w3.heap.size v (mkL (l3.take k))) ∧ Hid (Boxed wr (w3.heap.size + 1) 50 (.pointer (some ⟨w3.heap.size, 0, none⟩))) ∧ Hid (Below w3.heap.size w4 wr))
      case atStart => exact ⟨0, _, rfl, by omega, HX4.out, ownS_nil _ _, HY4.out, Below.refl _ _⟩
      case round =>
        obtain ⟨k, v, rfl, hk, HX, HO, HY, HBr⟩ := hrel
        have HSr := Lib.hid (HS4.out.next HBr.out (Nat.le_refl _))
        have HBw := Lib.hid (HB4.out.trans (HBr.out.mono hz3))
        cases gk with
        | zero =>
          have hkz : ¬ ((k : Int) < (l3.length : Int)) := by omega
          have hset := mkL_set HR3.out (fun s hs => HV.out s (HP3.out.mem_iff.1 hs))
          have ho := HO.out.base hz3
          rw [List.take_of_length_le (by omega)] at ho
          obtain ⟨A9, c9, rfl, _, _, _⟩ := ho.sls
          have hx := HX.out.cell
          have HE := Lib.hid (show MakeEnd w l (.returned (.tuple #[.slice A9 (mkL l3).length c9, .int .i64 0])) _ from ⟨mkL l3, _, hset.1, fun t => (hset.2 t).trans (inn_perm HP3.out t), rfl, ho, HBw.out⟩)
          clear ho hset
          go_wp2
          go_ret2
          exact HE.out
        | succ g =>
          have hkz : (k : Int) < (l3.length : Int) := by omega
          have hkn : k < l3.length := by omega
          obtain ⟨b, o, rfl, hblt, hp⟩ := HSr.out.at_ hkn
          have hmt := mkL_take hkn
          obtain ⟨⟨x, y⟩, hse⟩ : ∃ s, l3[k] = s := ⟨_, rfl⟩
          rw [hse] at hp hmt
          have HMT := Lib.hid hmt
          have c0 := hp.c0
          have c1 := hp.c1
          have hbz := HBr.out.size
          have hlen : (mkL (l3.take k)).length ≤ 20000 := by
            have h9 := mkL_len (l3.take k) []
            have h8 : (l3.take k).length ≤ k := List.length_take_le _ _
            unfold mkL
            simp only [List.length_nil, Nat.zero_add] at h9
            omega
          have HADD := Lib.hid (add_any w3.heap.size (w3.heap.size + 1) w3.heap.size (mkL (l3.take k)) v x y _ (HY.out.alloc (.cells #[.int .i64 x, .int .i64 y] 23)) (HX.out.alloc _) (HO.out.alloc _) (by simp; omega) hlen)
          clear hp hse hmt hlen
          go_wp2_with fail
          refine HADD.out.mono ?_
          rintro e w9 ⟨rfl, hadd, v', hv', ho'⟩
          have HN := Lib.hid (show Boxed w9 w3.heap.size 24 v' ∧ OwnS w9 w3.heap.size v' (mkL (l3.take (k + 1))) ∧ Boxed w9 (w3.heap.size + 1) 50 (.pointer (some ⟨w3.heap.size, 0, none⟩)) ∧ Below w3.heap.size w4 w9 from
            ⟨hv', by rw [HMT.out]; exact ho', hadd.boxed (HY.out.alloc _) (by omega) (by decide) (HO.out.alloc _), (HBr.out.alloc (by omega) _).trans (hadd.below (Nat.le_refl _) (HO.out.alloc _) (by simp; omega))⟩)
          clear hadd hv' ho' c0 c1 HADD
          go_wp2
          go_roundg g
          case measure => omega
          case rel => exact ⟨k + 1, v', by go_num, by omega, HN.out.1, HN.out.2.1, HN.out.2.2.1, HN.out.2.2.2⟩

theorem slS_lit {W : World} {cs : Array Value} {t : TypeId} {l : List Sp} (h : cs.toList = l.flatMap cellsS) : SlS (W.alloc (.cells cs t)) (W.heap.size + 1) (some ⟨W.heap.size, 0, none⟩) l := fun _ => by
  refine ⟨_, _, rfl, Nat.lt_succ_self _, fun j s hs => ?_⟩
  have k : ∀ i, i < 2 → (W.alloc (.cells cs t)).cell? ⟨W.heap.size, 0 + j * 2 + i, none⟩ = (cellsS s)[i]? := fun i hi => by
    have h4 : i < (cellsS s).length := by show _ < 2; omega
    have h5 : (l.flatMap cellsS)[j * 2 + i]? = some (cellsS s)[i] := by rw [flatS hi, hs, Option.bind_some, List.getElem?_eq_getElem h4]
    have h6 := cell_lit W cs t (j * 2 + i) _ (by rw [h]; exact h5)
    rw [List.getElem?_eq_getElem h4, ← h6]
    unfold Addr.add
    split
    · rename_i h0
      rw [show 0 + j * 2 + i = 0 from by omega]
    · rw [show 0 + j * 2 + i = 0 + (j * 2 + i) from by omega]
  exact ⟨k 0 (by omega), k 1 (by omega)⟩
theorem eqSp (s : Sp) (w : World) : (binOp .eql 23 (.agg #[.int .i64 s.1, .int .i64 s.2]) (.agg #[.int .i64 s.1, .int .i64 s.2])).run Tryz.prog w = .ok (.bool true) w := by
  have u2 := Tryz.underlying2
  have a2 := Tryz.isAgg2
  have hS : Tryz.prog.underlying 23 = some (.struct (Tryz.prog.fieldsOf 23)) := by kernel_rfl
  have hp : Tryz.prog.stoodInHeld 23 = false := by kernel_rfl
  rw [run_eql_struct, show (10000 : Nat) = 9999 + 1 from rfl, run_equalIn_agg w 9999 23 _ _ hS hp]
  simp only [Program.fieldsOf, Tryz.underlying23]
  go_simp

def aliveL : List Sp := [(5, 9), (1, 3), (3, 4), (8, 10)]
theorem alive_is {r : List Sp} (h : SetL r) (hi : ∀ t, Inn r t ↔ Inn aliveL t) : r = [(1, 4), (5, 10)] := by
  refine set_ext h (by decide) fun t => ?_
  rw [hi t]
  unfold aliveL
  simp only [inn_cons, inn_nil, or_false]
  omega
set_option maxRecDepth 100000 in
set_option maxHeartbeats 2000000 in
theorem aliveS_any (w : World) : Calls Tryz.prog 9 #[] w fun e w' => e = .returned (.bool true) ∧ Below w.heap.size w w' := by
  have hlit := slS_lit (W := w) (t := 23) (cs := #[.int .i64 5, .int .i64 9, .int .i64 1, .int .i64 3, .int .i64 3, .int .i64 4, .int .i64 8, .int .i64 10]) (l := aliveL) rfl
  have HM := Lib.hid (make_ok (some ⟨w.heap.size, 0, none⟩) 4 aliveL _ (hlit.more (by simp)) (by decide) (by decide))
  have HB0 : Hid (Below w.heap.size w (w.alloc (.cells #[.int .i64 5, .int .i64 9, .int .i64 1, .int .i64 3, .int .i64 3, .int .i64 4, .int .i64 8, .int .i64 10] 23))) := (Below.refl _ _).alloc (Nat.le_refl _) _
  have hq1 := eqSp (1, 4)
  have hq2 := eqSp (5, 10)
  simp only at hq1 hq2
  clear hlit
  go_enter Tryz.func9, Tryz.ntmps9
  go_wp2_with fail
  refine HM.out.mono ?_
  rintro e w1 ⟨r, v, h1, h2, rfl, ho, hb⟩
  obtain rfl := alive_is h1 h2
  obtain ⟨g, cap, rfl⟩ := ownsRow_succ (OwnS.row ho (n := 1 + 1) rfl)
  have hol := OwnS.row ho (n := 2) rfl
  have c0 : w1.cell? ⟨g, 0, none⟩ = some (.int .i64 1) := hol.cellAt 0 (by omega)
  have c1 : w1.cell? ⟨g, 1, none⟩ = some (.int .i64 4) := hol.cellAt 1 (by omega)
  have c2 : w1.cell? ⟨g, 2, none⟩ = some (.int .i64 5) := hol.cellAt 2 (by omega)
  have c3 : w1.cell? ⟨g, 3, none⟩ = some (.int .i64 10) := hol.cellAt 3 (by omega)
  have HB1 := Lib.hid (HB0.out.trans (hb.mono HB0.out.size))
  clear h1 h2 ho hb hol
  go_wp2
  go_ret
  exact ⟨rfl, HB1.out⟩
end Go.Proofs.YtfonmgpkbgdniaaGreatDoor
