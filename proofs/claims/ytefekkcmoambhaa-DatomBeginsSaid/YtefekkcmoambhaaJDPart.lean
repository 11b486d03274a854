import Derived.Laws.StructEq
import Derived.Test.YtefekkcmoambhaaJSMake
import Derived.Test.YtefekkcmoambhaaJDPure
import Derived.Test.YtefekkcmoambhaaJOrdRef
import Derived.Deep.Slices
import Derived.JoinedCond
import Derived.Test.YtefekkcmoambhaaJOBytes
import Derived.Test.YtefekkcmoambhaaJOPartArgs
import Derived.Laws.ResultCell
/-
  CONTRACTS: Make (of spans that may be); alive (the chapter's first example).
-/
namespace Go.Proofs.Ytefekkcmoambhaa
open Go.RowKit Go.Shelf

def mkL (l : List Sp) : List Sp := l.foldl addL []
theorem fold_add : ∀ (l acc : List Sp), SetL acc → (∀ q ∈ acc, ∀ s ∈ l, q.1 ≤ s.1) → RiseS l → (∀ s ∈ l, s.1 < s.2) → SetL (l.foldl addL acc) ∧ ∀ t, Inn (l.foldl addL acc) t ↔ Inn acc t ∨ Inn l t
  | [], acc, h, _, _, _ => ⟨h, fun t => by simp [inn_nil]⟩
  | s :: l, acc, h, hq, hr, hv => by
    obtain ⟨h1, h2, h3⟩ := addL_set h (hv s (by simp)) (fun q hm => hq q hm s (by simp))
    have hr' := List.pairwise_cons.1 hr
    obtain ⟨k1, k2⟩ := fold_add l (addL acc s) h1 (fun q hm s' hs' => Int.le_trans (h3 q hm) (hr'.1 s' hs')) hr'.2 (fun s' hs' => hv s' (by simp [hs']))
    refine ⟨k1, fun t => ?_⟩
    show Inn (l.foldl addL (addL acc s)) t ↔ _
    rw [k2 t, h2 t, inn_cons, or_assoc]
theorem mkL_set {l : List Sp} (hr : RiseS l) (hv : ∀ s ∈ l, s.1 < s.2) : SetL (mkL l) ∧ ∀ t, Inn (mkL l) t ↔ Inn l t := by
  obtain ⟨h1, h2⟩ := fold_add l [] setL_nil (fun _ h => by cases h) hr hv
  exact ⟨h1, fun t => by rw [show mkL l = l.foldl addL [] from rfl, h2 t]; simp [inn_nil]⟩
theorem mkL_take {l : List Sp} {j : Nat} (h : j < l.length) : mkL (l.take (j + 1)) = addL (mkL (l.take j)) l[j] := by
  unfold mkL
  rw [List.take_succ_eq_append_getElem h, List.foldl_append]; rfl
theorem mkL_len : ∀ (l acc : List Sp), (l.foldl addL acc).length ≤ acc.length + l.length
  | [], _ => Nat.le_refl _
  | s :: l, acc => by
    have h1 := mkL_len l (addL acc s)
    have h2 := addL_len acc s
    rw [List.foldl_cons, List.length_cons]
    omega
theorem inn_perm {a b : List Sp} (h : a.Perm b) (t : Int) : Inn a t ↔ Inn b t := by
  unfold Inn
  constructor
  · rintro ⟨s, hs, k⟩; exact ⟨s, h.mem_iff.1 hs, k⟩
  · rintro ⟨s, hs, k⟩; exact ⟨s, h.mem_iff.2 hs, k⟩

theorem OwnS.base {W : World} {B B' : Nat} {v : Value} {l : List Sp} (h : OwnS W B v l) (hB : B' ≤ B) : OwnS W B' v l := by
  obtain ⟨h1, h2⟩ := (show W.ownsRow B _ _ _ _ _ from h)
  refine ⟨h1, ?_⟩
  rcases h2 with h2 | ⟨g, cap, cur, e, hb, r⟩
  · exact .inl h2
  · exact .inr ⟨g, cap, cur, e, by omega, r⟩
/-- What Make answers. -/
def MakeEnd (W : World) (l : List Sp) (e : Ending) (W' : World) : Prop :=
  ∃ r v, SetL r ∧ (∀ t, Inn r t ↔ Inn l t) ∧ e = .returned (.tuple #[v, .int .i64 0]) ∧ OwnS W' W.heap.size v r ∧ Below W.heap.size W W'

set_option maxRecDepth 100000 in
set_option maxHeartbeats 2000000 in
theorem make_ok (A : Option Addr) (c : Nat) (l : List Sp) (w : World) (hs : SlS w w.heap.size A l) (hl : l.length ≤ 900) (hv : ∀ s ∈ l, s.1 < s.2) :
    Calls Try.prog 15 #[.slice A l.length c] w (MakeEnd w l) := by
  have HS := Lib.hid hs
  have HV := Lib.hid hv
  clear hs hv
  go_enter Try.func15, Try.ntmps15
  go_wp2
  go_loopg [5, 13] l.length (fun g _ z wr => ∃ j : Nat, z = .int .i64 j ∧ j + g = l.length ∧ Hid (Below w.heap.size w wr))
  case atStart => exact ⟨0, rfl, by omega, Below.refl _ _⟩
  case round =>
    obtain ⟨j, rfl, hj, HB⟩ := hrel
    cases gk with
    | succ g =>
      have hjz : (j : Int) < (l.length : Int) := by omega
      have hjn : j < l.length := by omega
      obtain ⟨b, o, rfl, _, hp⟩ := (HS.out.next HB.out (Nat.le_refl _)).at_ hjn
      have hvj := HV.out _ (List.getElem_mem hjn)
      obtain ⟨⟨x, y⟩, hse⟩ : ∃ s, l[j] = s := ⟨_, rfl⟩
      rw [hse] at hp hvj
      have c0 := hp.c0
      have c1 := hp.c1
      have HM := Lib.hid (show decide (x < y) = true from decide_eq_true hvj)
      have hbz := HB.out.size
      clear hp hse hvj
      go_wp2_with fail
      refine (spMay_is x y true HM.out _).mono ?_
      rintro e w9 ⟨rfl, hb9⟩
      have HB9 := Lib.hid ((HB.out.alloc hbz (.cells #[.int .i64 x, .int .i64 y] 74)).trans (hb9.mono (by simp; omega)))
      clear hb9 c0 c1
      go_wp2
      go_roundg g
      case measure => omega
      case rel => exact ⟨j + 1, by go_num, by omega, HB9.out⟩
    | zero =>
      have hjz : ¬ ((j : Int) < (l.length : Int)) := by omega
      have hbz := HB.out.size
      have hb2 := HB.out.alloc hbz (.cells #[.slice A l.length c] 28)
      have HB2 := Lib.hid hb2
      have hbx := Boxed.new wr 28 (.slice A l.length c)
      have HBX := Lib.hid hbx
      clear hb2 hbx
      go_wp2_with fail
      refine (valuesOf_any A l.length c _).mono ?_
      rintro e w9 ⟨rfl, rfl⟩
      go_wp2_with fail
      refine (sortedF_all wr.heap.size A c l _ HBX.out.lt ((HS.out.next HB2.out (Nat.le_refl _)).more HB2.out.size) (by omega) HBX.out.cell).mono ?_
      rintro e w3 ⟨A3, c3, l3, rfl, hs3, hp3, hr3, hb3⟩
      have HP3 := Lib.hid hp3
      have HR3 := Lib.hid hr3
      have HB3 := Lib.hid (HB2.out.trans (hb3.mono HB2.out.size))
      have hl3 : l3.length = l.length := hp3.length_eq
      have HL3 := Lib.hid hl3
      have HS3 := Lib.hid hs3
      have hl9 : l3.length ≤ 900 := by omega
      have HBS := Lib.hid (Boxed.new w3 28 (.slice none 0 0))
      clear hs3 hp3 hr3 hb3 hl3
      go_wp2_with fail
      refine (adderOf_any _ _).mono ?_
      rintro e w9 ⟨rfl, rfl⟩
      obtain ⟨w4, hw4⟩ : ∃ w4, (w3.alloc (.cells #[.slice none 0 0] 28)).alloc (.cells #[.pointer (some ⟨w3.heap.size, 0, none⟩)] 84) = w4 := ⟨_, rfl⟩
      have hz3 := HB3.out.size
      have HB4 : Hid (Below w.heap.size w w4) := by rw [← hw4]; exact (HB3.out.alloc hz3 _).alloc (by simp; omega) _
      have HS4 : Hid (SlS w4 w3.heap.size A3 l3) := by rw [← hw4]; exact HS3.out.next (((Below.refl _ _).alloc (Nat.le_refl _) _).alloc (by simp) _) (Nat.le_refl _)
      have HX4 : Hid (Boxed w4 w3.heap.size 28 (.slice none 0 0)) := by rw [← hw4]; exact HBS.out.alloc _
      have HY4 : Hid (Boxed w4 (w3.heap.size + 1) 84 (.pointer (some ⟨w3.heap.size, 0, none⟩))) := by
        rw [← hw4]
        have := Boxed.new (w3.alloc (.cells #[.slice none 0 0] 28)) 84 (.pointer (some ⟨w3.heap.size, 0, none⟩))
        rwa [World.size_alloc] at this
      have hz4 : w4.heap.size = w3.heap.size + 2 := by rw [← hw4]; simp
      rw [hw4]
      clear hw4
      go_wp2
      go_loopg [10, 27] l3.length (fun g _ z wr => ∃ (k : Nat) (v : Value), z = .int .i64 k ∧ k + g = l3.length ∧ Hid (Boxed wr w3.heap.size 28 v) ∧ Hid (OwnS wr w3.heap.size v (mkL (l3.take k))) ∧ Hid (Boxed wr (w3.heap.size + 1) 84 (.pointer (some ⟨w3.heap.size, 0, none⟩))) ∧ Hid (Below w3.heap.size w4 wr))
      case atStart => exact ⟨0, _, rfl, by omega, HX4.out, ownS_nil _ _, HY4.out, Below.refl _ _⟩
      case round =>
        obtain ⟨k, v, rfl, hk, HX, HO, HY, HBr⟩ := hrel
        have HSr := Lib.hid (HS4.out.next HBr.out (Nat.le_refl _))
        have HBw := Lib.hid (HB4.out.trans (HBr.out.mono hz3))
        cases gk with
        | zero =>
          have hkz : ¬ ((k : Int) < (l3.length : Int)) := by omega
          have hset := mkL_set HR3.out (fun s hs => HV.out s (HP3.out.mem_iff.1 hs))
          have ho := HO.out.base hz3
          rw [List.take_of_length_le (by omega)] at ho
          obtain ⟨A9, c9, rfl, _, _, _⟩ := ho.sls
          have hx := HX.out.cell
          have HE := Lib.hid (show MakeEnd w l (.returned (.tuple #[.slice A9 (mkL l3).length c9, .int .i64 0])) _ from ⟨mkL l3, _, hset.1, fun t => (hset.2 t).trans (inn_perm HP3.out t), rfl, ho, HBw.out⟩)
          clear ho hset
          go_wp2
          go_ret2
          exact HE.out
        | succ g =>
          have hkz : (k : Int) < (l3.length : Int) := by omega
          have hkn : k < l3.length := by omega
          obtain ⟨b, o, rfl, hblt, hp⟩ := HSr.out.at_ hkn
          have hmt := mkL_take hkn
          obtain ⟨⟨x, y⟩, hse⟩ : ∃ s, l3[k] = s := ⟨_, rfl⟩
          rw [hse] at hp hmt
          have HMT := Lib.hid hmt
          have c0 := hp.c0
          have c1 := hp.c1
          have hbz := HBr.out.size
          have hlen : (mkL (l3.take k)).length ≤ 1000 := by
            have h9 := mkL_len (l3.take k) []
            have h8 : (l3.take k).length ≤ k := List.length_take_le _ _
            unfold mkL
            simp only [List.length_nil, Nat.zero_add] at h9
            omega
          have HADD := Lib.hid (add_any w3.heap.size (w3.heap.size + 1) w3.heap.size (mkL (l3.take k)) v x y _ (HY.out.alloc (.cells #[.int .i64 x, .int .i64 y] 74)) (HX.out.alloc _) (HO.out.alloc _) (by simp; omega) hlen)
          clear hp hse hmt hlen
          go_wp2_with fail
          refine HADD.out.mono ?_
          rintro e w9 ⟨rfl, hadd, v', hv', ho'⟩
          have HN := Lib.hid (show Boxed w9 w3.heap.size 28 v' ∧ OwnS w9 w3.heap.size v' (mkL (l3.take (k + 1))) ∧ Boxed w9 (w3.heap.size + 1) 84 (.pointer (some ⟨w3.heap.size, 0, none⟩)) ∧ Below w3.heap.size w4 w9 from
            ⟨hv', by rw [HMT.out]; exact ho', hadd.boxed (HY.out.alloc _) (by omega) (by decide) (HO.out.alloc _), (HBr.out.alloc (by omega) _).trans (hadd.below (Nat.le_refl _) (HO.out.alloc _) (by simp; omega))⟩)
          clear hadd hv' ho' c0 c1 HADD
          go_wp2
          go_roundg g
          case measure => omega
          case rel => exact ⟨k + 1, v', by go_num, by omega, HN.out.1, HN.out.2.1, HN.out.2.2.1, HN.out.2.2.2⟩

theorem slS_lit {W : World} {cs : Array Value} {t : TypeId} {l : List Sp} (h : cs.toList = l.flatMap cellsS) : SlS (W.alloc (.cells cs t)) (W.heap.size + 1) (some ⟨W.heap.size, 0, none⟩) l := fun _ => by
  refine ⟨_, _, rfl, Nat.lt_succ_self _, fun j s hs => ?_⟩
  have k : ∀ i, i < 2 → (W.alloc (.cells cs t)).cell? ⟨W.heap.size, 0 + j * 2 + i, none⟩ = (cellsS s)[i]? := fun i hi => by
    have h4 : i < (cellsS s).length := by show _ < 2; omega
    have h5 : (l.flatMap cellsS)[j * 2 + i]? = some (cellsS s)[i] := by rw [flatS hi, hs, Option.bind_some, List.getElem?_eq_getElem h4]
    have h6 := cell_lit W cs t (j * 2 + i) _ (by rw [h]; exact h5)
    rw [List.getElem?_eq_getElem h4, ← h6]
    unfold Addr.add
    split
    · rename_i h0
      rw [show 0 + j * 2 + i = 0 from by omega]
    · rw [show 0 + j * 2 + i = 0 + (j * 2 + i) from by omega]
  exact ⟨k 0 (by omega), k 1 (by omega)⟩
theorem eqSp (s : Sp) (w : World) : (binOp .eql 74 (.agg #[.int .i64 s.1, .int .i64 s.2]) (.agg #[.int .i64 s.1, .int .i64 s.2])).run Try.prog w = .ok (.bool true) w := by
  have u2 := Try.underlying2
  have a2 := Try.isAgg2
  have hS : Try.prog.underlying 74 = some (.struct (Try.prog.fieldsOf 74)) := by kernel_rfl
  have hp : Try.prog.stoodInHeld 74 = false := by kernel_rfl
  rw [run_eql_struct, show (10000 : Nat) = 9999 + 1 from rfl, run_equalIn_agg w 9999 74 _ _ hS hp]
  simp only [Program.fieldsOf, Try.underlying74]
  go_simp

def aliveL : List Sp := [(5, 9), (1, 3), (3, 4), (8, 10)]
theorem alive_is {r : List Sp} (h : SetL r) (hi : ∀ t, Inn r t ↔ Inn aliveL t) : r = [(1, 4), (5, 10)] := by
  refine set_ext h (by decide) fun t => ?_
  rw [hi t]
  unfold aliveL
  simp only [inn_cons, inn_nil, or_false]
  omega
end Go.Proofs.Ytefekkcmoambhaa

/-
  CONTRACTS: Check; Make, where a span may not be.
-/
namespace Go.Proofs.Ytefekkcmoambhaa
open Go.RowKit

set_option maxRecDepth 100000 in
set_option maxHeartbeats 1000000 in
theorem checkS_any (A : Option Addr) (c : Nat) (l : List Sp) (w : World) (hs : SlS w w.heap.size A l) (hl : l.length ≤ 100000) :
    Calls Try.prog 23 #[.slice A l.length c] w fun e w' => e = .returned (.int .i64 (if setB l then 0 else 30)) ∧ Below w.heap.size w w' := by
  have h1 := isSet_any A c l w hs hl
  obtain ⟨x, hx⟩ : ∃ x, setB l = x := ⟨_, rfl⟩
  rw [hx] at h1 ⊢
  clear hs hx
  go_enter Try.func23, Try.ntmps23
  go_wp2_with fail
  refine h1.mono ?_
  rintro e w1 ⟨rfl, hb⟩
  have HB := Lib.hid hb
  clear h1 hb
  cases x
  · go_wp2
    go_ret
    exact ⟨rfl, HB.out⟩
  · go_wp2
    go_ret
    exact ⟨rfl, HB.out⟩

set_option maxRecDepth 100000 in
set_option maxHeartbeats 1000000 in
theorem make_no (A : Option Addr) (c : Nat) (l : List Sp) (w : World) (hs : SlS w w.heap.size A l) (hl : l.length ≤ 900) (hv : ¬ ∀ s ∈ l, s.1 < s.2) :
    Calls Try.prog 15 #[.slice A l.length c] w fun e w' => e = .returned (.tuple #[.slice none 0 0, .int .i64 30]) ∧ Below w.heap.size w w' := by
  have HS := Lib.hid hs
  have HV := Lib.hid hv
  clear hs hv
  go_enter Try.func15, Try.ntmps15
  go_wp2
  go_loopg [5, 13] l.length (fun g _ z wr => ∃ j : Nat, z = .int .i64 j ∧ j + g = l.length ∧ Hid (Below w.heap.size w wr) ∧ Hid (∀ k s, k < j → l[k]? = some s → s.1 < s.2))
  case atStart => exact ⟨0, rfl, by omega, Below.refl _ _, fun k s hk => by omega⟩
  case round =>
    obtain ⟨j, rfl, hj, HB, HO⟩ := hrel
    cases gk with
    | succ g =>
      have hjz : (j : Int) < (l.length : Int) := by omega
      have hjn : j < l.length := by omega
      obtain ⟨b, o, rfl, _, hp⟩ := (HS.out.next HB.out (Nat.le_refl _)).at_ hjn
      obtain ⟨⟨x, y⟩, hse⟩ : ∃ s, l[j] = s := ⟨_, rfl⟩
      have HG : Hid (l[j]? = some (x, y)) := by show _ = _; rw [List.getElem?_eq_getElem hjn, hse]
      rw [hse] at hp
      have c0 := hp.c0
      have c1 := hp.c1
      have hbz := HB.out.size
      clear hp hse
      by_cases hxy : x < y
      · have HM := Lib.hid (show decide (x < y) = true from decide_eq_true hxy)
        have HN : Hid (∀ k s, k < j + 1 → l[k]? = some s → s.1 < s.2) := fun k s hk hg => by
          rcases Nat.lt_succ_iff_lt_or_eq.1 hk with h | rfl
          · exact HO.out k s h hg
          · rw [HG.out] at hg
            cases hg
            exact hxy
        clear hxy
        go_wp2_with fail
        refine (spMay_is x y true HM.out _).mono ?_
        rintro e w9 ⟨rfl, hb9⟩
        have HB9 := Lib.hid ((HB.out.alloc hbz (.cells #[.int .i64 x, .int .i64 y] 74)).trans (hb9.mono (by simp; omega)))
        clear hb9 c0 c1
        go_wp2
        go_roundg g
        case measure => omega
        case rel => exact ⟨j + 1, by go_num, by omega, HB9.out, HN.out⟩
      · have HM := Lib.hid (show decide (x < y) = false from decide_eq_false hxy)
        clear hxy
        go_wp2_with fail
        refine (spMay_is x y false HM.out _).mono ?_
        rintro e w9 ⟨rfl, hb9⟩
        have HB9 := Lib.hid ((HB.out.alloc hbz (.cells #[.int .i64 x, .int .i64 y] 74)).trans (hb9.mono (by simp; omega)))
        clear hb9 c0 c1
        go_wp2
        go_ret2
        exact ⟨rfl, HB9.out⟩
    | zero =>
      refine absurd (fun s hs9 => ?_) HV.out
      obtain ⟨k, hk, rfl⟩ := List.getElem_of_mem hs9
      exact HO.out k _ (by omega) (List.getElem?_eq_getElem hk)
end Go.Proofs.Ytefekkcmoambhaa

/-
  CONTRACTS over datoms: isEntity, isTx, isStretch, mayBe, Check, placesOf, has, addNumber, part.
-/
namespace Go.Proofs.Ytefekkcmoambhaa
open Go.RowKit

/-- a datom in a box -/
def DatAt (W : World) (b : Nat) (d : Dat) : Prop := W.heap[b]? = some (.cells #[.int .i64 d.e, .int .i64 d.a, .int .i64 d.k, .int .i64 d.m, .string d.s, .int .i64 d.t, .bool d.add, .int .i64 d.fr, .int .i64 d.til] 42 (0, 0))
theorem DatAt.cell {W : World} {b : Nat} {d : Dat} (h : DatAt W b d) (j : Nat) : W.cell? ⟨b, j, none⟩ = (#[Value.int .i64 d.e, .int .i64 d.a, .int .i64 d.k, .int .i64 d.m, .string d.s, .int .i64 d.t, .bool d.add, .int .i64 d.fr, .int .i64 d.til])[j]? := by unfold DatAt at h; simp [World.cell?, h]
theorem DatAt.fz {W : World} {b : Nat} {d : Dat} (h : DatAt W b d) (j : Nat) : W.frozen? ⟨b, j, none⟩ = false := by unfold DatAt at h; simp [World.frozen?, h]
theorem datAt_new (W : World) (d : Dat) : DatAt (W.alloc (.cells #[.int .i64 d.e, .int .i64 d.a, .int .i64 d.k, .int .i64 d.m, .string d.s, .int .i64 d.t, .bool d.add, .int .i64 d.fr, .int .i64 d.til] 42)) W.heap.size d := heap_alloc_new W _
theorem DatAt.lt {W : World} {b : Nat} {d : Dat} (h : DatAt W b d) : b < W.heap.size := (Array.getElem?_eq_some_iff.1 h).1
theorem DatAt.next {W W' : World} {b B : Nat} {d : Dat} (h : DatAt W b d) (hb : Below B W W') (hB : b < B) : DatAt W' b d := (hb.block b hB).trans h
theorem DatAt.alloc {W : World} {b : Nat} {d : Dat} (h : DatAt W b d) (o : Obj) : DatAt (W.alloc o) b d := (Below.heap_alloc W o b h.lt).trans h
theorem DatAt.drewN {W : World} {b : Nat} {d : Dat} (h : DatAt W b d) (n : Nat) : DatAt (W.drewN n) b d := h
set_option maxHeartbeats 400000 in
theorem isEnt_any (n : Int) (w : World) : Calls Try.prog 104 #[.int .i64 n] w fun e w' => e = .returned (.bool (entB n)) ∧ w = w' := by
  by_cases h0 : 0 ≤ n
  · by_cases h1 : n < 9007199254740992
    · have e : Hid (entB n = true) := by show _ = _; unfold entB; simp [h0, h1]
      go_enter Try.func104, Try.ntmps104
      go_wp2
      go_ret
      exact ⟨by rw [e.out]; rfl, rfl⟩
    · have e : Hid (entB n = false) := by show _ = _; unfold entB; simp; omega
      go_enter Try.func104, Try.ntmps104
      go_wp2
      go_ret
      exact ⟨by rw [e.out]; rfl, rfl⟩
  · have e : Hid (entB n = false) := by show _ = _; unfold entB; simp; omega
    have h0' : decide (0 ≤ n) = false := decide_eq_false h0
    go_enter Try.func104, Try.ntmps104
    go_wp2
    go_ret
    exact ⟨by rw [e.out]; rfl, rfl⟩
def txB (n : Int) : Bool := decide (1 ≤ n ∧ n ≤ 1099511627776)
set_option maxHeartbeats 400000 in
theorem isTx_any (n : Int) (w : World) : Calls Try.prog 106 #[.int .i64 n] w fun e w' => e = .returned (.bool (txB n)) ∧ w = w' := by
  by_cases h0 : 1 ≤ n
  · by_cases h1 : n ≤ 1099511627776
    · have e : Hid (txB n = true) := by show _ = _; unfold txB; simp [h0, h1]
      go_enter Try.func106, Try.ntmps106
      go_wp2
      go_ret
      exact ⟨by rw [e.out]; rfl, rfl⟩
    · have e : Hid (txB n = false) := by show _ = _; unfold txB; simp; omega
      go_enter Try.func106, Try.ntmps106
      go_wp2
      go_ret
      exact ⟨by rw [e.out]; rfl, rfl⟩
  · have e : Hid (txB n = false) := by show _ = _; unfold txB; simp; omega
    have h0' : decide (1 ≤ n) = false := decide_eq_false h0
    go_enter Try.func106, Try.ntmps106
    go_wp2
    go_ret
    exact ⟨by rw [e.out]; rfl, rfl⟩
theorem setB_one (x y : Int) : setB [(x, y)] = decide (x < y) := by
  unfold setB
  rw [decide_eq_decide, setL_cons]
  exact ⟨fun h => h.1, fun h => ⟨h, fun _ h => (by cases h), setL_nil⟩⟩
set_option maxHeartbeats 400000 in
theorem isStretch_any (x y : Int) (w : World) : Calls Try.prog 107 #[.int .i64 x, .int .i64 y] w fun e w' => e = .returned (.bool (decide (x < y))) ∧ Below w.heap.size w w' := by
  have hlit := slS_lit (W := w) (t := 74) (cs := #[.int .i64 x, .int .i64 y]) (l := [(x, y)]) rfl
  have hc := checkS_any (some ⟨w.heap.size, 0, none⟩) 1 [(x, y)] _ (hlit.more (by simp)) (by simp)
  rw [setB_one] at hc
  have HB0 : Hid (Below w.heap.size w (w.alloc (.cells #[.int .i64 x, .int .i64 y] 74))) := (Below.refl _ _).alloc (Nat.le_refl _) _
  obtain ⟨v, hv⟩ : ∃ v, decide (x < y) = v := ⟨_, rfl⟩
  rw [hv] at hc ⊢
  have HC := Lib.hid hc
  clear hc hlit hv
  go_enter Try.func107, Try.ntmps107
  go_wp2_with fail
  refine HC.out.mono ?_
  rintro e w1 ⟨rfl, hb⟩
  have HB := Lib.hid (HB0.out.trans (hb.mono HB0.out.size))
  clear hb
  cases v
  · go_wp2
    go_ret
    exact ⟨rfl, HB.out⟩
  · go_wp2
    go_ret
    exact ⟨rfl, HB.out⟩
theorem bEnt (v : Bool) (n : Int) (w : World) (h : entB n = v) : Calls Try.prog 104 #[.int .i64 n] w fun e w' => e = .returned (.bool v) ∧ w = w' := by subst h; exact isEnt_any n w
theorem bTx (v : Bool) (n : Int) (w : World) (h : txB n = v) : Calls Try.prog 106 #[.int .i64 n] w fun e w' => e = .returned (.bool v) ∧ w = w' := by subst h; exact isTx_any n w
theorem bStr (v : Bool) (x y : Int) (w : World) (h : decide (x < y) = v) : Calls Try.prog 107 #[.int .i64 x, .int .i64 y] w fun e w' => e = .returned (.bool v) ∧ Below w.heap.size w w' := by subst h; exact isStretch_any x y w
theorem mayD_is (d : Dat) : mayD d = (entB d.e && entB d.a && mayB d.k d.m d.s && txB d.t && decide (d.fr < d.til)) := rfl

set_option maxRecDepth 100000 in
set_option maxHeartbeats 1000000 in
theorem dMay_any (d : Dat) (w : World) (hs : d.s.size ≤ maxLen) : Calls Try.prog 69 #[.agg #[.int .i64 d.e, .int .i64 d.a, .int .i64 d.k, .int .i64 d.m, .string d.s, .int .i64 d.t, .bool d.add, .int .i64 d.fr, .int .i64 d.til]] w fun e w' => e = .returned (.bool (mayD d)) ∧ Below w.heap.size w w' := by
  have HB0 : Hid (Below w.heap.size w (w.alloc (.cells #[.int .i64 d.e, .int .i64 d.a, .int .i64 d.k, .int .i64 d.m, .string d.s, .int .i64 d.t, .bool d.add, .int .i64 d.fr, .int .i64 d.til] 42))) := (Below.refl _ _).alloc (Nat.le_refl _) _
  have HDA := Lib.hid (datAt_new w d)
  have HM : Hid (mayD d = (entB d.e && entB d.a && mayB d.k d.m d.s && txB d.t && decide (d.fr < d.til))) := rfl
  obtain ⟨b1, h1⟩ : ∃ b, entB d.e = b := ⟨_, rfl⟩
  obtain ⟨b2, h2⟩ : ∃ b, entB d.a = b := ⟨_, rfl⟩
  obtain ⟨b3, h3⟩ : ∃ b, mayB d.k d.m d.s = b := ⟨_, rfl⟩
  obtain ⟨b4, h4⟩ : ∃ b, txB d.t = b := ⟨_, rfl⟩
  obtain ⟨b5, h5⟩ : ∃ b, decide (d.fr < d.til) = b := ⟨_, rfl⟩
  rw [h1, h2, h3, h4, h5] at HM
  have H1 := Lib.hid h1
  have H2 := Lib.hid h2
  have H3 := Lib.hid h3
  have H4 := Lib.hid h4
  have H5 := Lib.hid h5
  clear h1 h2 h3 h4 h5
  go_enter Try.func69, Try.ntmps69
  go_wp2_with fail
  refine (bEnt b1 d.e _ H1.out).mono ?_
  rintro e w1 ⟨rfl, rfl⟩
  cases b1
  · have HF : Hid (mayD d = false) := HM.out
    go_wp2
    go_ret
    exact ⟨by rw [HF.out]; rfl, HB0.out⟩
  go_wp2_with fail
  refine (bEnt b2 d.a _ H2.out).mono ?_
  rintro e w1 ⟨rfl, rfl⟩
  cases b2
  · have HF : Hid (mayD d = false) := HM.out
    go_wp2
    go_ret
    exact ⟨by rw [HF.out]; rfl, HB0.out⟩
  go_wp2_with fail
  cases b3
  · have HF : Hid (mayD d = false) := HM.out
    refine (check_no _ hs H3.out).mono ?_
    rintro e w1 ⟨rfl, hb⟩
    have HB := Lib.hid (HB0.out.trans (hb.mono HB0.out.size))
    clear hb
    go_wp2
    go_ret
    exact ⟨by rw [HF.out]; rfl, HB.out⟩
  refine (check_yes _ hs H3.out).mono ?_
  rintro e w1 ⟨rfl, hb⟩
  have HB1 := Lib.hid (HB0.out.trans (hb.mono HB0.out.size))
  have hx := HDA.out.next hb (by simp)
  have c5 := hx.cell 5
  have c7 := hx.cell 7
  have c8 := hx.cell 8
  simp at c5 c7 c8
  clear hb hx
  go_wp2_with fail
  refine (bTx b4 d.t _ H4.out).mono ?_
  rintro e w1 ⟨rfl, rfl⟩
  cases b4
  · have HF : Hid (mayD d = false) := HM.out
    go_wp2
    go_ret
    exact ⟨by rw [HF.out]; rfl, HB1.out⟩
  go_wp2_with fail
  refine (bStr b5 d.fr d.til _ H5.out).mono ?_
  rintro e w1 ⟨rfl, hb⟩
  have HB := Lib.hid (HB1.out.trans (hb.mono HB1.out.size))
  have HF : Hid (mayD d = b5) := HM.out
  clear hb
  go_wp2
  go_ret
  exact ⟨by rw [HF.out]; rfl, HB.out⟩
set_option maxRecDepth 100000 in
set_option maxHeartbeats 400000 in
theorem dCheck_any (d : Dat) (w : World) (hs : d.s.size ≤ maxLen) : Calls Try.prog 29 #[.agg #[.int .i64 d.e, .int .i64 d.a, .int .i64 d.k, .int .i64 d.m, .string d.s, .int .i64 d.t, .bool d.add, .int .i64 d.fr, .int .i64 d.til]] w fun e w' => e = .returned (.int .i64 (if mayD d = true then 0 else 40)) ∧ Below w.heap.size w w' := by
  have HB0 : Hid (Below w.heap.size w (w.alloc (.cells #[.int .i64 d.e, .int .i64 d.a, .int .i64 d.k, .int .i64 d.m, .string d.s, .int .i64 d.t, .bool d.add, .int .i64 d.fr, .int .i64 d.til] 42))) := (Below.refl _ _).alloc (Nat.le_refl _) _
  have hc := dMay_any d (w.alloc (.cells #[.int .i64 d.e, .int .i64 d.a, .int .i64 d.k, .int .i64 d.m, .string d.s, .int .i64 d.t, .bool d.add, .int .i64 d.fr, .int .i64 d.til] 42)) hs
  obtain ⟨b1, h1⟩ : ∃ b, mayD d = b := ⟨_, rfl⟩
  rw [h1] at hc ⊢
  have HC := Lib.hid hc
  clear hc h1
  go_enter Try.func29, Try.ntmps29
  go_wp2_with fail
  refine HC.out.mono ?_
  rintro e w1 ⟨rfl, hb⟩
  have HB := Lib.hid (HB0.out.trans (hb.mono HB0.out.size))
  clear hb
  cases b1
  · go_wp2
    go_ret
    exact ⟨rfl, HB.out⟩
  · go_wp2
    go_ret
    exact ⟨rfl, HB.out⟩
set_option maxHeartbeats 400000 in
theorem addNumber_any (b : Bool) (w : World) : Calls Try.prog 116 #[.bool b] w fun e w' => e = .returned (.int .i64 (cutN b)) ∧ w = w' := by
  cases b
  · go_enter Try.func116, Try.ntmps116
    go_wp2
    go_ret
    exact ⟨rfl, rfl⟩
  · go_enter Try.func116, Try.ntmps116
    go_wp2
    go_ret
    exact ⟨rfl, rfl⟩
end Go.Proofs.Ytefekkcmoambhaa

/-
  ARGUMENTS: a datom that came in; that it reads behind the call as before.
-/
namespace Go.Proofs.Ytefekkcmoambhaa
open Go.ChangeShapes Go.WideShapes Go.ChangeAt Go.RowKit Go.Joins Go.Deep

theorem cells9 : Try.prog.cellsOf 42 = 9 := by kernel_rfl
section
variable {H : Type} {enc : TypeId × Value → H}
set_option maxRecDepth 100000 in
/-- nine cells that read as a datom -/
theorem dat_cells {W : World} {n : Nat} {cs : List Value} {D : DataW H} {Pl : List MemPlace} (h : DataW.trod enc Try.prog W 0 (fun _ => true) true n 42 cs = some (D, Pl)) :
    ∃ d : Dat, cs = [.int .i64 d.e, .int .i64 d.a, .int .i64 d.k, .int .i64 d.m, .string d.s, .int .i64 d.t, .bool d.add, .int .i64 d.fr, .int .i64 d.til] ∧ DatOk d ∧ d.s.size ≤ maxLen ∧ d.s.size ≤ Rows.uptoBulk D := by
  obtain ⟨xs, n1, _, hx, hlen, hxl, hf⟩ := DataW.trod_struct Try.underlying42 h
  rw [cells9] at hlen
  match cs, hlen with
  | [c0, c1, c2, c3, c4, c5, c6, c7, c8], _ =>
    match xs, hxl with
    | [x0, x1, x2, x3, x4, x5, x6], _ =>
      have h0 : DataW.trod enc Try.prog W 0 (fun _ => true) true n1 2 ((([c0, c1, c2, c3, c4, c5, c6, c7, c8] : List Value).drop 0).take (Try.prog.cellsOf 2)) = some x0 := hf 0 _ rfl
      have h1 : DataW.trod enc Try.prog W 0 (fun _ => true) true n1 2 ((([c0, c1, c2, c3, c4, c5, c6, c7, c8] : List Value).drop 1).take (Try.prog.cellsOf 2)) = some x1 := hf 1 _ rfl
      have h2 : DataW.trod enc Try.prog W 0 (fun _ => true) true n1 24 ((([c0, c1, c2, c3, c4, c5, c6, c7, c8] : List Value).drop 2).take (Try.prog.cellsOf 24)) = some x2 := hf 2 _ rfl
      have h3 : DataW.trod enc Try.prog W 0 (fun _ => true) true n1 2 ((([c0, c1, c2, c3, c4, c5, c6, c7, c8] : List Value).drop 5).take (Try.prog.cellsOf 2)) = some x3 := hf 3 _ rfl
      have h4 : DataW.trod enc Try.prog W 0 (fun _ => true) true n1 4 ((([c0, c1, c2, c3, c4, c5, c6, c7, c8] : List Value).drop 6).take (Try.prog.cellsOf 4)) = some x4 := hf 4 _ rfl
      have h5 : DataW.trod enc Try.prog W 0 (fun _ => true) true n1 2 ((([c0, c1, c2, c3, c4, c5, c6, c7, c8] : List Value).drop 7).take (Try.prog.cellsOf 2)) = some x5 := hf 5 _ rfl
      have h6 : DataW.trod enc Try.prog W 0 (fun _ => true) true n1 2 ((([c0, c1, c2, c3, c4, c5, c6, c7, c8] : List Value).drop 8).take (Try.prog.cellsOf 2)) = some x6 := hf 6 _ rfl
      rw [cellsL64] at h0 h1 h3 h5 h6
      rw [cells3] at h2
      rw [cellsB] at h4
      obtain ⟨i0, e0, _, w0⟩ := DataW.trod_int Try.underlying2 h0
      obtain ⟨i1, e1, _, w1⟩ := DataW.trod_int Try.underlying2 h1
      obtain ⟨i3, e3, _, w3⟩ := DataW.trod_int Try.underlying2 h3
      obtain ⟨b4, e4, _⟩ := DataW.trod_bool Try.underlying4 h4
      obtain ⟨i5, e5, _, w5⟩ := DataW.trod_int Try.underlying2 h5
      obtain ⟨i6, e6, _, w6⟩ := DataW.trod_int Try.underlying2 h6
      obtain ⟨ys, n2, _, hy, _, hyl, hg⟩ := DataW.trod_struct Try.underlying24 h2
      match ys, hyl with
      | [y0, y1, y2], _ =>
        have g0 : DataW.trod enc Try.prog W 0 (fun _ => true) true n2 3 ((([c2, c3, c4] : List Value).drop 0).take (Try.prog.cellsOf 3)) = some y0 := hg 0 _ rfl
        rw [cellsI] at g0
        have g1 : DataW.trod enc Try.prog W 0 (fun _ => true) true n2 2 ((([c2, c3, c4] : List Value).drop 1).take (Try.prog.cellsOf 2)) = some y1 := hg 1 _ rfl
        rw [cellsL64] at g1
        have g2 : DataW.trod enc Try.prog W 0 (fun _ => true) true n2 9 ((([c2, c3, c4] : List Value).drop 2).take (Try.prog.cellsOf 9)) = some y2 := hg 2 _ rfl
        rw [cellsStr] at g2
        obtain ⟨k, f0, _, v0⟩ := DataW.trod_int Try.underlying3 g0
        obtain ⟨m, f1, _, v1⟩ := DataW.trod_int Try.underlying2 g1
        obtain ⟨s, f2, z2, v2⟩ := DataW.trod_string Try.underlying9 g2
        simp at e0 e1 e3 e4 e5 e6 f0 f1 f2
        subst e0 e1 e3 e4 e5 e6 f0 f1 f2
        refine ⟨⟨i0, i1, k, m, s, i3, b4, i5, i6⟩, rfl, ⟨i64_ok w0, i64_ok w1, i64_ok v0, i64_ok v1, i64_ok w3, i64_ok w5, i64_ok w6⟩, v2, ?_⟩
        have hD : D = .agg [x0.1, x1.1, x2.1, x3.1, x4.1, x5.1, x6.1] := by have := congrArg Prod.fst hx; simpa using this
        have hE : x2.1 = .agg [y0.1, y1.1, y2.1] := by have := congrArg Prod.fst hy; simpa using this
        have hs : s.data.toList.length = s.size := Array.length_toList
        rw [hD, hE, z2]
        simp only [Rows.uptoBulk, Rows.uptoBulkAll]
        omega
set_option maxRecDepth 100000 in
theorem open_dat {W : World} {base : Nat} {v : Value} {d : DataW H} {p : List MemPlace} (hval : Value.okWide Try.prog W .any base 42 v) (h : DataW.Trod enc Try.prog W 0 (fun _ => true) true 42 v d p) :
    ∃ D : Dat, v = .agg #[.int .i64 D.e, .int .i64 D.a, .int .i64 D.k, .int .i64 D.m, .string D.s, .int .i64 D.t, .bool D.add, .int .i64 D.fr, .int .i64 D.til] ∧ DatOk D ∧ D.s.size ≤ maxLen ∧ D.s.size ≤ Rows.uptoBulk d := by
  obtain ⟨cs, rfl, hsz⟩ := okWide_struct Try.underlying42 hval
  obtain ⟨fuel, hf⟩ := h
  obtain ⟨D, hD, ok, hs, hb⟩ := dat_cells hf
  have e : cs.toList = [.int .i64 D.e, .int .i64 D.a, .int .i64 D.k, .int .i64 D.m, .string D.s, .int .i64 D.t, .bool D.add, .int .i64 D.fr, .int .i64 D.til] := by simpa [Value.cells] using hD
  exact ⟨D, by rw [← Array.toArray_toList (xs := cs), e], ok, hs, hb⟩
set_option maxRecDepth 100000 in
theorem dat_after {W W' : World} {v : Value} {d : DataW H} {p : List MemPlace} (h : DataW.Trod enc Try.prog W 0 (fun _ => true) true 42 v d p) (hb : Below W.heap.size W W') (hlt : ∀ x ∈ p, x.block < W.heap.size) :
    DataW.Trod enc Try.prog W' 0 (fun b => decide (b < W.heap.size)) true 42 v d p := Below.trod laidOut (by kernel_rfl) (of_decide_eq_true (by kernel_rfl)) h hb hlt
end
end Go.Proofs.Ytefekkcmoambhaa

/-
  CONTRACTS over datoms: placesOf, has, part.
-/
namespace Go.Proofs.Ytefekkcmoambhaa
open Go.RowKit

/-- where E, A and V stand, in a slot -/
def plcV (o : Int) : Value := if o = 1 then .agg #[.int .i64 (0 : Int), .int .i64 (1 : Int), .int .i64 (2 : Int)] else if o = 2 then .agg #[.int .i64 (1 : Int), .int .i64 (0 : Int), .int .i64 (2 : Int)] else if o = 3 then .agg #[.int .i64 (2 : Int), .int .i64 (0 : Int), .int .i64 (1 : Int)] else if o = 4 then .agg #[.int .i64 (2 : Int), .int .i64 (1 : Int), .int .i64 (0 : Int)] else .agg #[.int .i64 (0 : Int), .int .i64 (0 : Int), .int .i64 (0 : Int)]
theorem plcV_is {o : Int} (h : isO o = true) : plcV o = .agg #[.int .i64 ((plE o : Nat) : Int), .int .i64 ((plA o : Nat) : Int), .int .i64 ((plV o : Nat) : Int)] := by
  rcases isO_cases h with rfl | rfl | rfl | rfl <;> rfl
set_option maxRecDepth 100000 in
set_option maxHeartbeats 1000000 in
theorem placesOf_any (o : Int) (w : World) : Calls Try.prog 70 #[.int .i64 o] w fun e w' => e = .returned (.tuple #[plcV o, .bool (isO o)]) ∧ Below w.heap.size w w' := by
  by_cases h1 : o = 1
  · subst h1
    go_enter Try.func70, Try.ntmps70
    go_wp2
    refine bodyPost_ret (v := .tuple #[plcV 1, .bool true]) ?_ rfl ⟨rfl, ?_⟩
    · rw [results_cell_tmp rfl]
      go_simp
      rfl
    · exact (Below.refl _ _).alloc (Nat.le_refl _) _
  by_cases h2 : o = 2
  · subst h2
    go_enter Try.func70, Try.ntmps70
    go_wp2
    refine bodyPost_ret (v := .tuple #[plcV 2, .bool true]) ?_ rfl ⟨rfl, ?_⟩
    · rw [results_cell_tmp rfl]
      go_simp
      rfl
    · exact (Below.refl _ _).alloc (Nat.le_refl _) _
  by_cases h3 : o = 3
  · subst h3
    go_enter Try.func70, Try.ntmps70
    go_wp2
    refine bodyPost_ret (v := .tuple #[plcV 3, .bool true]) ?_ rfl ⟨rfl, ?_⟩
    · rw [results_cell_tmp rfl]
      go_simp
      rfl
    · exact (Below.refl _ _).alloc (Nat.le_refl _) _
  by_cases h4 : o = 4
  · subst h4
    go_enter Try.func70, Try.ntmps70
    go_wp2
    refine bodyPost_ret (v := .tuple #[plcV 4, .bool true]) ?_ rfl ⟨rfl, ?_⟩
    · rw [results_cell_tmp rfl]
      go_simp
      rfl
    · exact (Below.refl _ _).alloc (Nat.le_refl _) _
  have HE : Hid (plcV o = .agg #[.int .i64 (0 : Int), .int .i64 (0 : Int), .int .i64 (0 : Int)] ∧ isO o = false) := by
    refine ⟨?_, ?_⟩
    · unfold plcV; rw [if_neg h1, if_neg h2, if_neg h3, if_neg h4]
    · unfold isO; rw [decide_eq_false_iff_not]; omega
  have k1 : (o == 1) = false := beq_eq_false_iff_ne.2 h1
  have k2 : (o == 2) = false := beq_eq_false_iff_ne.2 h2
  have k3 : (o == 3) = false := beq_eq_false_iff_ne.2 h3
  have k4 : (o == 4) = false := beq_eq_false_iff_ne.2 h4
  clear h1 h2 h3 h4
  go_enter Try.func70, Try.ntmps70
  go_wp2
  rw [HE.out.1, HE.out.2]
  refine bodyPost_ret (v := .tuple #[.agg #[.int .i64 (0 : Int), .int .i64 (0 : Int), .int .i64 (0 : Int)], .bool false]) ?_ rfl ⟨rfl, ?_⟩
  · rw [results_cell_tmp rfl]
    go_simp
  · exact (Below.refl _ _).alloc (Nat.le_refl _) _

set_option maxRecDepth 100000 in
set_option maxHeartbeats 1000000 in
theorem has_any (o : Int) (d : Dat) (w : World) : Calls Try.prog 71 #[.int .i64 o, .agg #[.int .i64 d.e, .int .i64 d.a, .int .i64 d.k, .int .i64 d.m, .string d.s, .int .i64 d.t, .bool d.add, .int .i64 d.fr, .int .i64 d.til]] w fun e w' => e = .returned (.bool (hasD o d)) ∧ Below w.heap.size w w' := by
  by_cases h1 : o = 1
  · subst h1
    have HE : Hid (hasD 1 d = true) := by show _ = _; unfold hasD; simp
    go_enter Try.func71, Try.ntmps71
    go_wp2
    go_ret
    exact ⟨by rw [HE.out]; rfl, (Below.refl _ _).alloc (Nat.le_refl _) _⟩
  by_cases h2 : o = 2
  · subst h2
    have HE : Hid (hasD 2 d = true) := by show _ = _; unfold hasD; simp
    go_enter Try.func71, Try.ntmps71
    go_wp2
    go_ret
    exact ⟨by rw [HE.out]; rfl, (Below.refl _ _).alloc (Nat.le_refl _) _⟩
  by_cases h3 : o = 3
  · subst h3
    have HE : Hid (hasD 3 d = true) := by show _ = _; unfold hasD; simp
    go_enter Try.func71, Try.ntmps71
    go_wp2
    go_ret
    exact ⟨by rw [HE.out]; rfl, (Below.refl _ _).alloc (Nat.le_refl _) _⟩
  by_cases h4 : o = 4
  · subst h4
    by_cases hk : d.k = 5
    · have HE : Hid (hasD 4 d = true) := by show _ = _; unfold hasD; simp [hk]
      have hkq : (d.k != 5) = false := by rw [hk]; rfl
      clear hk
      go_enter Try.func71, Try.ntmps71
      go_wp2
      go_ret
      exact ⟨by rw [HE.out]; rfl, (Below.refl _ _).alloc (Nat.le_refl _) _⟩
    · have HE : Hid (hasD 4 d = false) := by show _ = _; unfold hasD; simp [hk]
      have hkq : (d.k != 5) = true := by simpa using hk
      clear hk
      go_enter Try.func71, Try.ntmps71
      go_wp2
      go_ret
      exact ⟨by rw [HE.out]; rfl, (Below.refl _ _).alloc (Nat.le_refl _) _⟩
  have HE : Hid (hasD o d = false) := by show _ = _; unfold hasD; rw [decide_eq_false_iff_not]; omega
  have k1 : (o == 1) = false := beq_eq_false_iff_ne.2 h1
  have k2 : (o == 2) = false := beq_eq_false_iff_ne.2 h2
  have k3 : (o == 3) = false := beq_eq_false_iff_ne.2 h3
  have k4 : (o == 4) = false := beq_eq_false_iff_ne.2 h4
  clear h1 h2 h3 h4
  go_enter Try.func71, Try.ntmps71
  go_wp2
  go_ret
  exact ⟨by rw [HE.out]; rfl, (Below.refl _ _).alloc (Nat.le_refl _) _⟩

/-- what a datom has at a place, E, A and V at any three -/
def partPl (pe pa pv : Nat) (d : Dat) (i : Nat) : PartP :=
  if i = pe then numP d.e else if i = pa then numP d.a else if i = pv then valP d else if i = 3 then numP d.t else if i = 4 then numP (cutN d.add) else if i = 5 then numP d.fr else numP d.til
theorem partD_is (o : Int) (d : Dat) (i : Nat) : partD o d i = partPl (plE o) (plA o) (plV o) d i := rfl
set_option maxRecDepth 100000 in
set_option maxHeartbeats 1000000 in
theorem part_any (pe pa pv i : Nat) (d : Dat) (w : World) :
    Calls Try.prog 82 #[.agg #[.int .i64 (pe : Int), .int .i64 (pa : Int), .int .i64 (pv : Int)], .agg #[.int .i64 d.e, .int .i64 d.a, .int .i64 d.k, .int .i64 d.m, .string d.s, .int .i64 d.t, .bool d.add, .int .i64 d.fr, .int .i64 d.til], .int .i64 (i : Int)] w fun e w' => e = .returned (partV (partPl pe pa pv d i)) ∧ Below w.heap.size w w' := by
  by_cases h0 : i = pe
  · have HE : Hid (partPl pe pa pv d i = numP d.e) := by show _ = _; unfold partPl; rw [if_pos h0]
    have k0 : ((i : Int) == (pe : Int)) = true := by rw [beq_iff_eq]; omega
    clear h0
    go_enter Try.func82, Try.ntmps82
    go_wp2
    rw [HE.out]
    refine bodyPost_ret (v := partV (numP d.e)) ?_ rfl ⟨rfl, ?_⟩
    · rw [results_cell_only rfl]
      unfold partV numP
      go_simp
    · exact (((Below.refl _ _).alloc (Nat.le_refl _) _).alloc (by simp) _).alloc (by simp; omega) _
  by_cases h1 : i = pa
  · have HE : Hid (partPl pe pa pv d i = numP d.a) := by show _ = _; unfold partPl; rw [if_neg h0, if_pos h1]
    have k1 : ((i : Int) == (pa : Int)) = true := by rw [beq_iff_eq]; omega
    have k0 : ((i : Int) == (pe : Int)) = false := by rw [beq_eq_false_iff_ne]; omega
    clear h0 h1
    go_enter Try.func82, Try.ntmps82
    go_wp2
    rw [HE.out]
    refine bodyPost_ret (v := partV (numP d.a)) ?_ rfl ⟨rfl, ?_⟩
    · rw [results_cell_only rfl]
      unfold partV numP
      go_simp
    · exact (((Below.refl _ _).alloc (Nat.le_refl _) _).alloc (by simp) _).alloc (by simp; omega) _
  by_cases h2 : i = pv
  · have HE : Hid (partPl pe pa pv d i = valP d) := by show _ = _; unfold partPl; rw [if_neg h0, if_neg h1, if_pos h2]
    have k2 : ((i : Int) == (pv : Int)) = true := by rw [beq_iff_eq]; omega
    have k0 : ((i : Int) == (pe : Int)) = false := by rw [beq_eq_false_iff_ne]; omega
    have k1 : ((i : Int) == (pa : Int)) = false := by rw [beq_eq_false_iff_ne]; omega
    clear h0 h1 h2
    go_enter Try.func82, Try.ntmps82
    go_wp2
    rw [HE.out]
    refine bodyPost_ret (v := partV (valP d)) ?_ rfl ⟨rfl, ?_⟩
    · rw [results_cell_only rfl]
      unfold partV valP
      go_simp
    · exact (((Below.refl _ _).alloc (Nat.le_refl _) _).alloc (by simp) _).alloc (by simp; omega) _
  by_cases h3 : i = 3
  · have HE : Hid (partPl pe pa pv d i = numP d.t) := by show _ = _; unfold partPl; rw [if_neg h0, if_neg h1, if_neg h2, if_pos h3]
    have k3 : ((i : Int) == 3) = true := by rw [beq_iff_eq]; omega
    have k0 : ((i : Int) == (pe : Int)) = false := by rw [beq_eq_false_iff_ne]; omega
    have k1 : ((i : Int) == (pa : Int)) = false := by rw [beq_eq_false_iff_ne]; omega
    have k2 : ((i : Int) == (pv : Int)) = false := by rw [beq_eq_false_iff_ne]; omega
    clear h0 h1 h2 h3
    go_enter Try.func82, Try.ntmps82
    go_wp2
    rw [HE.out]
    refine bodyPost_ret (v := partV (numP d.t)) ?_ rfl ⟨rfl, ?_⟩
    · rw [results_cell_only rfl]
      unfold partV numP
      go_simp
    · exact (((Below.refl _ _).alloc (Nat.le_refl _) _).alloc (by simp) _).alloc (by simp; omega) _
  by_cases h4 : i = 4
  · have HE : Hid (partPl pe pa pv d i = numP (cutN d.add)) := by show _ = _; unfold partPl; rw [if_neg h0, if_neg h1, if_neg h2, if_neg h3, if_pos h4]
    have k4 : ((i : Int) == 4) = true := by rw [beq_iff_eq]; omega
    have k0 : ((i : Int) == (pe : Int)) = false := by rw [beq_eq_false_iff_ne]; omega
    have k1 : ((i : Int) == (pa : Int)) = false := by rw [beq_eq_false_iff_ne]; omega
    have k2 : ((i : Int) == (pv : Int)) = false := by rw [beq_eq_false_iff_ne]; omega
    have k3 : ((i : Int) == 3) = false := by rw [beq_eq_false_iff_ne]; omega
    clear h0 h1 h2 h3 h4
    obtain ⟨g, hg⟩ : ∃ g, cutN d.add = g := ⟨_, rfl⟩
    have HAD := Lib.hid (fun X => addNumber_any d.add X)
    rw [hg] at HE HAD
    clear hg
    go_enter Try.func82, Try.ntmps82
    go_wp2_with fail
    refine (HAD.out _).mono ?_
    rintro e w1 ⟨rfl, rfl⟩
    go_wp2
    rw [HE.out]
    refine bodyPost_ret (v := partV (numP g)) ?_ rfl ⟨rfl, ?_⟩
    · rw [results_cell_only rfl]
      unfold partV numP
      go_simp
    · exact (((Below.refl _ _).alloc (Nat.le_refl _) _).alloc (by simp) _).alloc (by simp; omega) _
  by_cases h5 : i = 5
  · have HE : Hid (partPl pe pa pv d i = numP d.fr) := by show _ = _; unfold partPl; rw [if_neg h0, if_neg h1, if_neg h2, if_neg h3, if_neg h4, if_pos h5]
    have k5 : ((i : Int) == 5) = true := by rw [beq_iff_eq]; omega
    have k0 : ((i : Int) == (pe : Int)) = false := by rw [beq_eq_false_iff_ne]; omega
    have k1 : ((i : Int) == (pa : Int)) = false := by rw [beq_eq_false_iff_ne]; omega
    have k2 : ((i : Int) == (pv : Int)) = false := by rw [beq_eq_false_iff_ne]; omega
    have k3 : ((i : Int) == 3) = false := by rw [beq_eq_false_iff_ne]; omega
    have k4 : ((i : Int) == 4) = false := by rw [beq_eq_false_iff_ne]; omega
    clear h0 h1 h2 h3 h4 h5
    go_enter Try.func82, Try.ntmps82
    go_wp2
    rw [HE.out]
    refine bodyPost_ret (v := partV (numP d.fr)) ?_ rfl ⟨rfl, ?_⟩
    · rw [results_cell_only rfl]
      unfold partV numP
      go_simp
    · exact (((Below.refl _ _).alloc (Nat.le_refl _) _).alloc (by simp) _).alloc (by simp; omega) _
  have HE : Hid (partPl pe pa pv d i = numP d.til) := by show _ = _; unfold partPl; rw [if_neg h0, if_neg h1, if_neg h2, if_neg h3, if_neg h4, if_neg h5]
  have k0 : ((i : Int) == (pe : Int)) = false := by rw [beq_eq_false_iff_ne]; omega
  have k1 : ((i : Int) == (pa : Int)) = false := by rw [beq_eq_false_iff_ne]; omega
  have k2 : ((i : Int) == (pv : Int)) = false := by rw [beq_eq_false_iff_ne]; omega
  have k3 : ((i : Int) == 3) = false := by rw [beq_eq_false_iff_ne]; omega
  have k4 : ((i : Int) == 4) = false := by rw [beq_eq_false_iff_ne]; omega
  have k5 : ((i : Int) == 5) = false := by rw [beq_eq_false_iff_ne]; omega
  clear h0 h1 h2 h3 h4 h5
  go_enter Try.func82, Try.ntmps82
  go_wp2
  rw [HE.out]
  refine bodyPost_ret (v := partV (numP d.til)) ?_ rfl ⟨rfl, ?_⟩
  · rw [results_cell_only rfl]
    unfold partV numP
    go_simp
  · exact (((Below.refl _ _).alloc (Nat.le_refl _) _).alloc (by simp) _).alloc (by simp; omega) _
end Go.Proofs.Ytefekkcmoambhaa
