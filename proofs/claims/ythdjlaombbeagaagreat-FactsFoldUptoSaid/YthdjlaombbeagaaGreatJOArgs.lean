import Derived.Laws.StructEq
import Derived.Test.YthdjlaombbeagaaGreatJSMake
import Derived.Test.YthdjlaombbeagaaGreatJDPure
import Derived.Test.YthdjlaombbeagaaGreatJOrdRef
import Derived.Test.YthdjlaombbeagaaGreatJDOrd
import Derived.Test.YthdjlaombbeagaaGreatJVSl
import Derived.Test.YthdjlaombbeagaaGreatRows
import Derived.ProofKit
import Derived.OpenShut
import Derived.ShutString
import Derived.ChangeOld
import Derived.ChangeSlices
import Derived.Carry
import Derived.Lib.SmallJoins
import Derived.Test.YthdjlaombbeagaaGreatJOBack
/-
  CONTRACTS: Make (of spans that may be); alive (the chapter's first example).
-/
namespace Go.Proofs.YthdjlaombbeagaaGreat
open Go.RowKit Go.Shelf

def mkL (l : List Sp) : List Sp := l.foldl addL []
theorem fold_add : ∀ (l acc : List Sp), SetL acc → (∀ q ∈ acc, ∀ s ∈ l, q.1 ≤ s.1) → RiseS l → (∀ s ∈ l, s.1 < s.2) → SetL (l.foldl addL acc) ∧ ∀ t, Inn (l.foldl addL acc) t ↔ Inn acc t ∨ Inn l t
  | [], acc, h, _, _, _ => ⟨h, fun t => by simp [inn_nil]⟩
  | s :: l, acc, h, hq, hr, hv => by
    obtain ⟨h1, h2, h3⟩ := addL_set h (hv s (by simp)) (fun q hm => hq q hm s (by simp))
    have hr' := List.pairwise_cons.1 hr
    obtain ⟨k1, k2⟩ := fold_add l (addL acc s) h1 (fun q hm s' hs' => Int.le_trans (h3 q hm) (hr'.1 s' hs')) hr'.2 (fun s' hs' => hv s' (by simp [hs']))
    refine ⟨k1, fun t => ?_⟩
    show Inn (l.foldl addL (addL acc s)) t ↔ _
    rw [k2 t, h2 t, inn_cons, or_assoc]
theorem mkL_set {l : List Sp} (hr : RiseS l) (hv : ∀ s ∈ l, s.1 < s.2) : SetL (mkL l) ∧ ∀ t, Inn (mkL l) t ↔ Inn l t := by
  obtain ⟨h1, h2⟩ := fold_add l [] setL_nil (fun _ h => by cases h) hr hv
  exact ⟨h1, fun t => by rw [show mkL l = l.foldl addL [] from rfl, h2 t]; simp [inn_nil]⟩
theorem mkL_take {l : List Sp} {j : Nat} (h : j < l.length) : mkL (l.take (j + 1)) = addL (mkL (l.take j)) l[j] := by
  unfold mkL
  rw [List.take_succ_eq_append_getElem h, List.foldl_append]; rfl
theorem mkL_len : ∀ (l acc : List Sp), (l.foldl addL acc).length ≤ acc.length + l.length
  | [], _ => Nat.le_refl _
  | s :: l, acc => by
    have h1 := mkL_len l (addL acc s)
    have h2 := addL_len acc s
    rw [List.foldl_cons, List.length_cons]
    omega
theorem inn_perm {a b : List Sp} (h : a.Perm b) (t : Int) : Inn a t ↔ Inn b t := by
  unfold Inn
  constructor
  · rintro ⟨s, hs, k⟩; exact ⟨s, h.mem_iff.1 hs, k⟩
  · rintro ⟨s, hs, k⟩; exact ⟨s, h.mem_iff.2 hs, k⟩

theorem OwnS.base {W : World} {B B' : Nat} {v : Value} {l : List Sp} (h : OwnS W B v l) (hB : B' ≤ B) : OwnS W B' v l := by
  obtain ⟨h1, h2⟩ := (show W.ownsRow B _ _ _ _ _ from h)
  refine ⟨h1, ?_⟩
  rcases h2 with h2 | ⟨g, cap, cur, e, hb, r⟩
  · exact .inl h2
  · exact .inr ⟨g, cap, cur, e, by omega, r⟩
/-- What Make answers. -/
def MakeEnd (W : World) (l : List Sp) (e : Ending) (W' : World) : Prop :=
  ∃ r v, SetL r ∧ (∀ t, Inn r t ↔ Inn l t) ∧ e = .returned (.tuple #[v, .int .i64 0]) ∧ OwnS W' W.heap.size v r ∧ Below W.heap.size W W'

set_option maxRecDepth 100000 in
set_option maxHeartbeats 2000000 in
theorem make_ok (A : Option Addr) (c : Nat) (l : List Sp) (w : World) (hs : SlS w w.heap.size A l) (hl : l.length ≤ 5000) (hv : ∀ s ∈ l, s.1 < s.2) :
    Calls Tryz.prog 43 #[.slice A l.length c] w (MakeEnd w l) := by
  have HS := Lib.hid hs
  have HV := Lib.hid hv
  clear hs hv
  go_enter Tryz.func43, Tryz.ntmps43
  go_wp2
  go_loopg [5, 13] l.length (fun g _ z wr => ∃ j : Nat, z = .int .i64 j ∧ j + g = l.length ∧ Hid (Below w.heap.size w wr))
  case atStart => exact ⟨0, rfl, by omega, Below.refl _ _⟩
  case round =>
    obtain ⟨j, rfl, hj, HB⟩ := hrel
    cases gk with
    | succ g =>
      have hjz : (j : Int) < (l.length : Int) := by omega
      have hjn : j < l.length := by omega
      obtain ⟨b, o, rfl, _, hp⟩ := (HS.out.next HB.out (Nat.le_refl _)).at_ hjn
      have hvj := HV.out _ (List.getElem_mem hjn)
      obtain ⟨⟨x, y⟩, hse⟩ : ∃ s, l[j] = s := ⟨_, rfl⟩
      rw [hse] at hp hvj
      have c0 := hp.c0
      have c1 := hp.c1
      have HM := Lib.hid (show decide (x < y) = true from decide_eq_true hvj)
      have hbz := HB.out.size
      clear hp hse hvj
      go_wp2_with fail
      refine (spMay_is x y true HM.out _).mono ?_
      rintro e w9 ⟨rfl, hb9⟩
      have HB9 := Lib.hid ((HB.out.alloc hbz (.cells #[.int .i64 x, .int .i64 y] 88)).trans (hb9.mono (by simp; omega)))
      clear hb9 c0 c1
      go_wp2
      go_roundg g
      case measure => omega
      case rel => exact ⟨j + 1, by go_num, by omega, HB9.out⟩
    | zero =>
      have hjz : ¬ ((j : Int) < (l.length : Int)) := by omega
      have hbz := HB.out.size
      have hb2 := HB.out.alloc hbz (.cells #[.slice A l.length c] 60)
      have HB2 := Lib.hid hb2
      have hbx := Boxed.new wr 60 (.slice A l.length c)
      have HBX := Lib.hid hbx
      clear hb2 hbx
      go_wp2_with fail
      refine (valuesOf_any A l.length c _).mono ?_
      rintro e w9 ⟨rfl, rfl⟩
      go_wp2_with fail
      refine (sortedF_all wr.heap.size A c l _ HBX.out.lt ((HS.out.next HB2.out (Nat.le_refl _)).more HB2.out.size) (by omega) HBX.out.cell).mono ?_
      rintro e w3 ⟨A3, c3, l3, rfl, hs3, hp3, hr3, hb3⟩
      have HP3 := Lib.hid hp3
      have HR3 := Lib.hid hr3
      have HB3 := Lib.hid (HB2.out.trans (hb3.mono HB2.out.size))
      have hl3 : l3.length = l.length := hp3.length_eq
      have HL3 := Lib.hid hl3
      have HS3 := Lib.hid hs3
      have hl9 : l3.length ≤ 5000 := by omega
      have HBS := Lib.hid (Boxed.new w3 60 (.slice none 0 0))
      clear hs3 hp3 hr3 hb3 hl3
      go_wp2_with fail
      refine (adderOf_any _ _).mono ?_
      rintro e w9 ⟨rfl, rfl⟩
      obtain ⟨w4, hw4⟩ : ∃ w4, (w3.alloc (.cells #[.slice none 0 0] 60)).alloc (.cells #[.pointer (some ⟨w3.heap.size, 0, none⟩)] 125) = w4 := ⟨_, rfl⟩
      have hz3 := HB3.out.size
      have HB4 : Hid (Below w.heap.size w w4) := by rw [← hw4]; exact (HB3.out.alloc hz3 _).alloc (by simp; omega) _
      have HS4 : Hid (SlS w4 w3.heap.size A3 l3) := by rw [← hw4]; exact HS3.out.next (((Below.refl _ _).alloc (Nat.le_refl _) _).alloc (by simp) _) (Nat.le_refl _)
      have HX4 : Hid (Boxed w4 w3.heap.size 60 (.slice none 0 0)) := by rw [← hw4]; exact HBS.out.alloc _
      have HY4 : Hid (Boxed w4 (w3.heap.size + 1) 125 (.pointer (some ⟨w3.heap.size, 0, none⟩))) := by
        rw [← hw4]
        have := Boxed.new (w3.alloc (.cells #[.slice none 0 0] 60)) 125 (.pointer (some ⟨w3.heap.size, 0, none⟩))
        rwa [World.size_alloc] at this
      have hz4 : w4.heap.size = w3.heap.size + 2 := by rw [← hw4]; simp
      rw [hw4]
      clear hw4
      go_wp2
      go_loopg [10, 27] l3.length (fun g _ z wr => ∃ (k : Nat) (v : Value), z = .int .i64 k ∧ k + g = l3.length ∧ Hid (Boxed wr w3.heap.size 60 v) ∧ Hid (OwnS wr w3.heap.size v (mkL (l3.take k))) ∧ Hid (Boxed wr (w3.heap.size + 1) 125 (.pointer (some ⟨w3.heap.size, 0, none⟩))) ∧ Hid (Below w3.heap.size w4 wr))
      case atStart => exact ⟨0, _, rfl, by omega, HX4.out, ownS_nil _ _, HY4.out, Below.refl _ _⟩
      case round =>
        obtain ⟨k, v, rfl, hk, HX, HO, HY, HBr⟩ := hrel
        have HSr := Lib.hid (HS4.out.next HBr.out (Nat.le_refl _))
        have HBw := Lib.hid (HB4.out.trans (HBr.out.mono hz3))
        cases gk with
        | zero =>
          have hkz : ¬ ((k : Int) < (l3.length : Int)) := by omega
          have hset := mkL_set HR3.out (fun s hs => HV.out s (HP3.out.mem_iff.1 hs))
          have ho := HO.out.base hz3
          rw [List.take_of_length_le (by omega)] at ho
          obtain ⟨A9, c9, rfl, _, _, _⟩ := ho.sls
          have hx := HX.out.cell
          have HE := Lib.hid (show MakeEnd w l (.returned (.tuple #[.slice A9 (mkL l3).length c9, .int .i64 0])) _ from ⟨mkL l3, _, hset.1, fun t => (hset.2 t).trans (inn_perm HP3.out t), rfl, ho, HBw.out⟩)
          clear ho hset
          go_wp2
          go_ret2
          exact HE.out
        | succ g =>
          have hkz : (k : Int) < (l3.length : Int) := by omega
          have hkn : k < l3.length := by omega
          obtain ⟨b, o, rfl, hblt, hp⟩ := HSr.out.at_ hkn
          have hmt := mkL_take hkn
          obtain ⟨⟨x, y⟩, hse⟩ : ∃ s, l3[k] = s := ⟨_, rfl⟩
          rw [hse] at hp hmt
          have HMT := Lib.hid hmt
          have c0 := hp.c0
          have c1 := hp.c1
          have hbz := HBr.out.size
          have hlen : (mkL (l3.take k)).length ≤ 20000 := by
            have h9 := mkL_len (l3.take k) []
            have h8 : (l3.take k).length ≤ k := List.length_take_le _ _
            unfold mkL
            simp only [List.length_nil, Nat.zero_add] at h9
            omega
          have HADD := Lib.hid (add_any w3.heap.size (w3.heap.size + 1) w3.heap.size (mkL (l3.take k)) v x y _ (HY.out.alloc (.cells #[.int .i64 x, .int .i64 y] 88)) (HX.out.alloc _) (HO.out.alloc _) (by simp; omega) hlen)
          clear hp hse hmt hlen
          go_wp2_with fail
          refine HADD.out.mono ?_
          rintro e w9 ⟨rfl, hadd, v', hv', ho'⟩
          have HN := Lib.hid (show Boxed w9 w3.heap.size 60 v' ∧ OwnS w9 w3.heap.size v' (mkL (l3.take (k + 1))) ∧ Boxed w9 (w3.heap.size + 1) 125 (.pointer (some ⟨w3.heap.size, 0, none⟩)) ∧ Below w3.heap.size w4 w9 from
            ⟨hv', by rw [HMT.out]; exact ho', hadd.boxed (HY.out.alloc _) (by omega) (by decide) (HO.out.alloc _), (HBr.out.alloc (by omega) _).trans (hadd.below (Nat.le_refl _) (HO.out.alloc _) (by simp; omega))⟩)
          clear hadd hv' ho' c0 c1 HADD
          go_wp2
          go_roundg g
          case measure => omega
          case rel => exact ⟨k + 1, v', by go_num, by omega, HN.out.1, HN.out.2.1, HN.out.2.2.1, HN.out.2.2.2⟩

theorem slS_lit {W : World} {cs : Array Value} {t : TypeId} {l : List Sp} (h : cs.toList = l.flatMap cellsS) : SlS (W.alloc (.cells cs t)) (W.heap.size + 1) (some ⟨W.heap.size, 0, none⟩) l := fun _ => by
  refine ⟨_, _, rfl, Nat.lt_succ_self _, fun j s hs => ?_⟩
  have k : ∀ i, i < 2 → (W.alloc (.cells cs t)).cell? ⟨W.heap.size, 0 + j * 2 + i, none⟩ = (cellsS s)[i]? := fun i hi => by
    have h4 : i < (cellsS s).length := by show _ < 2; omega
    have h5 : (l.flatMap cellsS)[j * 2 + i]? = some (cellsS s)[i] := by rw [flatS hi, hs, Option.bind_some, List.getElem?_eq_getElem h4]
    have h6 := cell_lit W cs t (j * 2 + i) _ (by rw [h]; exact h5)
    rw [List.getElem?_eq_getElem h4, ← h6]
    unfold Addr.add
    split
    · rename_i h0
      rw [show 0 + j * 2 + i = 0 from by omega]
    · rw [show 0 + j * 2 + i = 0 + (j * 2 + i) from by omega]
  exact ⟨k 0 (by omega), k 1 (by omega)⟩
end Go.Proofs.YthdjlaombbeagaaGreat

/-
  CONTRACTS: Check; Make, where a span may not be.
-/
namespace Go.Proofs.YthdjlaombbeagaaGreat
open Go.RowKit

set_option maxRecDepth 100000 in
set_option maxHeartbeats 1000000 in
theorem checkS_big (A : Option Addr) (c : Nat) (l : List Sp) (w : World) (hs : SlS w w.heap.size A l) (hl : l.length ≤ 9223372036854775807) :
    Calls Tryz.prog 89 #[.slice A l.length c] w fun e w' => e = .returned (.int .i64 (if setB l then 0 else 30)) ∧ Below w.heap.size w w' := by
  have h1 := isSet_big A c l w hs hl
  obtain ⟨x, hx⟩ : ∃ x, setB l = x := ⟨_, rfl⟩
  rw [hx] at h1 ⊢
  clear hs hx
  go_enter Tryz.func89, Tryz.ntmps89
  go_wp2_with fail
  refine h1.mono ?_
  rintro e w1 ⟨rfl, hb⟩
  have HB := Lib.hid hb
  clear h1 hb
  cases x
  · go_wp2
    go_ret
    exact ⟨rfl, HB.out⟩
  · go_wp2
    go_ret
    exact ⟨rfl, HB.out⟩

theorem checkS_any (A : Option Addr) (c : Nat) (l : List Sp) (w : World) (hs : SlS w w.heap.size A l) (hl : l.length ≤ 100000) :
    Calls Tryz.prog 89 #[.slice A l.length c] w fun e w' => e = .returned (.int .i64 (if setB l then 0 else 30)) ∧ Below w.heap.size w w' := checkS_big A c l w hs (by omega)

end Go.Proofs.YthdjlaombbeagaaGreat

/-
  CONTRACTS over datoms: isEntity, isTx, isStretch, mayBe, Check, placesOf, has, addNumber, part.
-/
namespace Go.Proofs.YthdjlaombbeagaaGreat
open Go.RowKit

/-- a datom in a box -/
def DatAt (W : World) (b : Nat) (d : Dat) : Prop := W.heap[b]? = some (.cells #[.int .i64 d.e, .int .i64 d.a, .int .i64 d.k, .int .i64 d.m, .string d.s, .int .i64 d.t, .bool d.add, .int .i64 d.fr, .int .i64 d.til] 44 (0, 0))
theorem DatAt.cell {W : World} {b : Nat} {d : Dat} (h : DatAt W b d) (j : Nat) : W.cell? ⟨b, j, none⟩ = (#[Value.int .i64 d.e, .int .i64 d.a, .int .i64 d.k, .int .i64 d.m, .string d.s, .int .i64 d.t, .bool d.add, .int .i64 d.fr, .int .i64 d.til])[j]? := by unfold DatAt at h; simp [World.cell?, h]
theorem DatAt.fz {W : World} {b : Nat} {d : Dat} (h : DatAt W b d) (j : Nat) : W.frozen? ⟨b, j, none⟩ = false := by unfold DatAt at h; simp [World.frozen?, h]
theorem datAt_new (W : World) (d : Dat) : DatAt (W.alloc (.cells #[.int .i64 d.e, .int .i64 d.a, .int .i64 d.k, .int .i64 d.m, .string d.s, .int .i64 d.t, .bool d.add, .int .i64 d.fr, .int .i64 d.til] 44)) W.heap.size d := heap_alloc_new W _
theorem DatAt.lt {W : World} {b : Nat} {d : Dat} (h : DatAt W b d) : b < W.heap.size := (Array.getElem?_eq_some_iff.1 h).1
theorem DatAt.next {W W' : World} {b B : Nat} {d : Dat} (h : DatAt W b d) (hb : Below B W W') (hB : b < B) : DatAt W' b d := (hb.block b hB).trans h
theorem DatAt.alloc {W : World} {b : Nat} {d : Dat} (h : DatAt W b d) (o : Obj) : DatAt (W.alloc o) b d := (Below.heap_alloc W o b h.lt).trans h
theorem DatAt.drewN {W : World} {b : Nat} {d : Dat} (h : DatAt W b d) (n : Nat) : DatAt (W.drewN n) b d := h
set_option maxHeartbeats 400000 in
theorem isEnt_any (n : Int) (w : World) : Calls Tryz.prog 56 #[.int .i64 n] w fun e w' => e = .returned (.bool (entB n)) ∧ w = w' := by
  by_cases h0 : 0 ≤ n
  · by_cases h1 : n < 9007199254740992
    · have e : Hid (entB n = true) := by show _ = _; unfold entB; simp [h0, h1]
      go_enter Tryz.func56, Tryz.ntmps56
      go_wp2
      go_ret
      exact ⟨by rw [e.out]; rfl, rfl⟩
    · have e : Hid (entB n = false) := by show _ = _; unfold entB; simp; omega
      go_enter Tryz.func56, Tryz.ntmps56
      go_wp2
      go_ret
      exact ⟨by rw [e.out]; rfl, rfl⟩
  · have e : Hid (entB n = false) := by show _ = _; unfold entB; simp; omega
    have h0' : decide (0 ≤ n) = false := decide_eq_false h0
    go_enter Tryz.func56, Tryz.ntmps56
    go_wp2
    go_ret
    exact ⟨by rw [e.out]; rfl, rfl⟩
def txB (n : Int) : Bool := decide (1 ≤ n ∧ n ≤ 1099511627776)
set_option maxHeartbeats 400000 in
theorem isTx_any (n : Int) (w : World) : Calls Tryz.prog 58 #[.int .i64 n] w fun e w' => e = .returned (.bool (txB n)) ∧ w = w' := by
  by_cases h0 : 1 ≤ n
  · by_cases h1 : n ≤ 1099511627776
    · have e : Hid (txB n = true) := by show _ = _; unfold txB; simp [h0, h1]
      go_enter Tryz.func58, Tryz.ntmps58
      go_wp2
      go_ret
      exact ⟨by rw [e.out]; rfl, rfl⟩
    · have e : Hid (txB n = false) := by show _ = _; unfold txB; simp; omega
      go_enter Tryz.func58, Tryz.ntmps58
      go_wp2
      go_ret
      exact ⟨by rw [e.out]; rfl, rfl⟩
  · have e : Hid (txB n = false) := by show _ = _; unfold txB; simp; omega
    have h0' : decide (1 ≤ n) = false := decide_eq_false h0
    go_enter Tryz.func58, Tryz.ntmps58
    go_wp2
    go_ret
    exact ⟨by rw [e.out]; rfl, rfl⟩
theorem setB_one (x y : Int) : setB [(x, y)] = decide (x < y) := by
  unfold setB
  rw [decide_eq_decide, setL_cons]
  exact ⟨fun h => h.1, fun h => ⟨h, fun _ h => (by cases h), setL_nil⟩⟩
set_option maxHeartbeats 400000 in
theorem isStretch_any (x y : Int) (w : World) : Calls Tryz.prog 59 #[.int .i64 x, .int .i64 y] w fun e w' => e = .returned (.bool (decide (x < y))) ∧ Below w.heap.size w w' := by
  have hlit := slS_lit (W := w) (t := 88) (cs := #[.int .i64 x, .int .i64 y]) (l := [(x, y)]) rfl
  have hc := checkS_any (some ⟨w.heap.size, 0, none⟩) 1 [(x, y)] _ (hlit.more (by simp)) (by simp)
  rw [setB_one] at hc
  have HB0 : Hid (Below w.heap.size w (w.alloc (.cells #[.int .i64 x, .int .i64 y] 88))) := (Below.refl _ _).alloc (Nat.le_refl _) _
  obtain ⟨v, hv⟩ : ∃ v, decide (x < y) = v := ⟨_, rfl⟩
  rw [hv] at hc ⊢
  have HC := Lib.hid hc
  clear hc hlit hv
  go_enter Tryz.func59, Tryz.ntmps59
  go_wp2_with fail
  refine HC.out.mono ?_
  rintro e w1 ⟨rfl, hb⟩
  have HB := Lib.hid (HB0.out.trans (hb.mono HB0.out.size))
  clear hb
  cases v
  · go_wp2
    go_ret
    exact ⟨rfl, HB.out⟩
  · go_wp2
    go_ret
    exact ⟨rfl, HB.out⟩
theorem bEnt (v : Bool) (n : Int) (w : World) (h : entB n = v) : Calls Tryz.prog 56 #[.int .i64 n] w fun e w' => e = .returned (.bool v) ∧ w = w' := by subst h; exact isEnt_any n w
theorem bTx (v : Bool) (n : Int) (w : World) (h : txB n = v) : Calls Tryz.prog 58 #[.int .i64 n] w fun e w' => e = .returned (.bool v) ∧ w = w' := by subst h; exact isTx_any n w
theorem bStr (v : Bool) (x y : Int) (w : World) (h : decide (x < y) = v) : Calls Tryz.prog 59 #[.int .i64 x, .int .i64 y] w fun e w' => e = .returned (.bool v) ∧ Below w.heap.size w w' := by subst h; exact isStretch_any x y w
set_option maxRecDepth 100000 in
set_option maxHeartbeats 1000000 in
theorem dMay_any (d : Dat) (w : World) (hs : d.s.size ≤ maxLen) : Calls Tryz.prog 35 #[.agg #[.int .i64 d.e, .int .i64 d.a, .int .i64 d.k, .int .i64 d.m, .string d.s, .int .i64 d.t, .bool d.add, .int .i64 d.fr, .int .i64 d.til]] w fun e w' => e = .returned (.bool (mayD d)) ∧ Below w.heap.size w w' := by
  have HB0 : Hid (Below w.heap.size w (w.alloc (.cells #[.int .i64 d.e, .int .i64 d.a, .int .i64 d.k, .int .i64 d.m, .string d.s, .int .i64 d.t, .bool d.add, .int .i64 d.fr, .int .i64 d.til] 44))) := (Below.refl _ _).alloc (Nat.le_refl _) _
  have HDA := Lib.hid (datAt_new w d)
  have HM : Hid (mayD d = (entB d.e && entB d.a && mayB d.k d.m d.s && txB d.t && decide (d.fr < d.til))) := rfl
  obtain ⟨b1, h1⟩ : ∃ b, entB d.e = b := ⟨_, rfl⟩
  obtain ⟨b2, h2⟩ : ∃ b, entB d.a = b := ⟨_, rfl⟩
  obtain ⟨b3, h3⟩ : ∃ b, mayB d.k d.m d.s = b := ⟨_, rfl⟩
  obtain ⟨b4, h4⟩ : ∃ b, txB d.t = b := ⟨_, rfl⟩
  obtain ⟨b5, h5⟩ : ∃ b, decide (d.fr < d.til) = b := ⟨_, rfl⟩
  rw [h1, h2, h3, h4, h5] at HM
  have H1 := Lib.hid h1
  have H2 := Lib.hid h2
  have H3 := Lib.hid h3
  have H4 := Lib.hid h4
  have H5 := Lib.hid h5
  clear h1 h2 h3 h4 h5
  go_enter Tryz.func35, Tryz.ntmps35
  go_wp2_with fail
  refine (bEnt b1 d.e _ H1.out).mono ?_
  rintro e w1 ⟨rfl, rfl⟩
  cases b1
  · have HF : Hid (mayD d = false) := HM.out
    go_wp2
    go_ret
    exact ⟨by rw [HF.out]; rfl, HB0.out⟩
  go_wp2_with fail
  refine (bEnt b2 d.a _ H2.out).mono ?_
  rintro e w1 ⟨rfl, rfl⟩
  cases b2
  · have HF : Hid (mayD d = false) := HM.out
    go_wp2
    go_ret
    exact ⟨by rw [HF.out]; rfl, HB0.out⟩
  go_wp2_with fail
  cases b3
  · have HF : Hid (mayD d = false) := HM.out
    refine (check_no _ hs H3.out).mono ?_
    rintro e w1 ⟨rfl, hb⟩
    have HB := Lib.hid (HB0.out.trans (hb.mono HB0.out.size))
    clear hb
    go_wp2
    go_ret
    exact ⟨by rw [HF.out]; rfl, HB.out⟩
  refine (check_yes _ hs H3.out).mono ?_
  rintro e w1 ⟨rfl, hb⟩
  have HB1 := Lib.hid (HB0.out.trans (hb.mono HB0.out.size))
  have hx := HDA.out.next hb (by simp)
  have c5 := hx.cell 5
  have c7 := hx.cell 7
  have c8 := hx.cell 8
  simp at c5 c7 c8
  clear hb hx
  go_wp2_with fail
  refine (bTx b4 d.t _ H4.out).mono ?_
  rintro e w1 ⟨rfl, rfl⟩
  cases b4
  · have HF : Hid (mayD d = false) := HM.out
    go_wp2
    go_ret
    exact ⟨by rw [HF.out]; rfl, HB1.out⟩
  go_wp2_with fail
  refine (bStr b5 d.fr d.til _ H5.out).mono ?_
  rintro e w1 ⟨rfl, hb⟩
  have HB := Lib.hid (HB1.out.trans (hb.mono HB1.out.size))
  have HF : Hid (mayD d = b5) := HM.out
  clear hb
  go_wp2
  go_ret
  exact ⟨by rw [HF.out]; rfl, HB.out⟩
set_option maxRecDepth 100000 in
set_option maxHeartbeats 400000 in
theorem dCheck_any (d : Dat) (w : World) (hs : d.s.size ≤ maxLen) : Calls Tryz.prog 15 #[.agg #[.int .i64 d.e, .int .i64 d.a, .int .i64 d.k, .int .i64 d.m, .string d.s, .int .i64 d.t, .bool d.add, .int .i64 d.fr, .int .i64 d.til]] w fun e w' => e = .returned (.int .i64 (if mayD d = true then 0 else 40)) ∧ Below w.heap.size w w' := by
  have HB0 : Hid (Below w.heap.size w (w.alloc (.cells #[.int .i64 d.e, .int .i64 d.a, .int .i64 d.k, .int .i64 d.m, .string d.s, .int .i64 d.t, .bool d.add, .int .i64 d.fr, .int .i64 d.til] 44))) := (Below.refl _ _).alloc (Nat.le_refl _) _
  have hc := dMay_any d (w.alloc (.cells #[.int .i64 d.e, .int .i64 d.a, .int .i64 d.k, .int .i64 d.m, .string d.s, .int .i64 d.t, .bool d.add, .int .i64 d.fr, .int .i64 d.til] 44)) hs
  obtain ⟨b1, h1⟩ : ∃ b, mayD d = b := ⟨_, rfl⟩
  rw [h1] at hc ⊢
  have HC := Lib.hid hc
  clear hc h1
  go_enter Tryz.func15, Tryz.ntmps15
  go_wp2_with fail
  refine HC.out.mono ?_
  rintro e w1 ⟨rfl, hb⟩
  have HB := Lib.hid (HB0.out.trans (hb.mono HB0.out.size))
  clear hb
  cases b1
  · go_wp2
    go_ret
    exact ⟨rfl, HB.out⟩
  · go_wp2
    go_ret
    exact ⟨rfl, HB.out⟩
set_option maxHeartbeats 400000 in
theorem addNumber_any (b : Bool) (w : World) : Calls Tryz.prog 102 #[.bool b] w fun e w' => e = .returned (.int .i64 (cutN b)) ∧ w = w' := by
  cases b
  · go_enter Tryz.func102, Tryz.ntmps102
    go_wp2
    go_ret
    exact ⟨rfl, rfl⟩
  · go_enter Tryz.func102, Tryz.ntmps102
    go_wp2
    go_ret
    exact ⟨rfl, rfl⟩
end Go.Proofs.YthdjlaombbeagaaGreat

/-
  SLICES OF DATOMS.
-/
namespace Go.Proofs.YthdjlaombbeagaaGreat
open Go.RowKit Go.Shelf

def cellsD (d : Dat) : List Value := [.int .i64 d.e, .int .i64 d.a, .int .i64 d.k, .int .i64 d.m, .string d.s, .int .i64 d.t, .bool d.add, .int .i64 d.fr, .int .i64 d.til]
theorem cellsD_one (d : Dat) : ∀ u ∈ cellsD d, u.oneCell' = true := by
  intro u hu
  simp [cellsD] at hu
  rcases hu with rfl | rfl | rfl | rfl | rfl | rfl | rfl | rfl | rfl <;> rfl
theorem cellsD_len (d : Dat) : (cellsD d).length = 9 := rfl
/-- one datom's cells -/
def DtAt (W : World) (b o : Nat) (d : Dat) : Prop := ∀ i, i < 9 → W.cell? ⟨b, o + i, none⟩ = (cellsD d)[i]?
theorem DtAt.c0 {W : World} {b o : Nat} {d : Dat} (h : DtAt W b o d) : W.cell? ⟨b, o, none⟩ = some (.int .i64 d.e) := h 0 (by decide)
theorem DtAt.c1 {W : World} {b o : Nat} {d : Dat} (h : DtAt W b o d) : W.cell? ⟨b, o + 1, none⟩ = some (.int .i64 d.a) := h 1 (by decide)
theorem DtAt.c2 {W : World} {b o : Nat} {d : Dat} (h : DtAt W b o d) : W.cell? ⟨b, o + 2, none⟩ = some (.int .i64 d.k) := h 2 (by decide)
theorem DtAt.c3 {W : World} {b o : Nat} {d : Dat} (h : DtAt W b o d) : W.cell? ⟨b, o + 3, none⟩ = some (.int .i64 d.m) := h 3 (by decide)
theorem DtAt.c4 {W : World} {b o : Nat} {d : Dat} (h : DtAt W b o d) : W.cell? ⟨b, o + 4, none⟩ = some (.string d.s) := h 4 (by decide)
theorem DtAt.c5 {W : World} {b o : Nat} {d : Dat} (h : DtAt W b o d) : W.cell? ⟨b, o + 5, none⟩ = some (.int .i64 d.t) := h 5 (by decide)
theorem DtAt.c6 {W : World} {b o : Nat} {d : Dat} (h : DtAt W b o d) : W.cell? ⟨b, o + 6, none⟩ = some (.bool d.add) := h 6 (by decide)
theorem DtAt.c7 {W : World} {b o : Nat} {d : Dat} (h : DtAt W b o d) : W.cell? ⟨b, o + 7, none⟩ = some (.int .i64 d.fr) := h 7 (by decide)
theorem DtAt.c8 {W : World} {b o : Nat} {d : Dat} (h : DtAt W b o d) : W.cell? ⟨b, o + 8, none⟩ = some (.int .i64 d.til) := h 8 (by decide)
theorem DtAt.next {W W' : World} {B b o : Nat} {d : Dat} (h : DtAt W b o d) (hb : Below B W W') (hB : b < B) : DtAt W' b o d := fun i hi => (hb.cell (p := ⟨b, o + i, none⟩) hB).trans (h i hi)
theorem DtAt.drew {W : World} {b o : Nat} {d : Dat} (h : DtAt W b o d) : DtAt W.drew b o d := h
theorem DtAt.drewN {W : World} {b o : Nat} {d : Dat} (h : DtAt W b o d) (n : Nat) : DtAt (W.drewN n) b o d := h
/-- a slice that reads as these datoms, in blocks below B -/
def SlD (W : World) (B : Nat) (A : Option Addr) (l : List Dat) : Prop :=
  l ≠ [] → ∃ b o, A = some ⟨b, o, none⟩ ∧ b < B ∧ ∀ (j : Nat) (v : Dat), l[j]? = some v → DtAt W b (o + j * 9) v
theorem SlD.next {W W' : World} {B : Nat} {A : Option Addr} {l : List Dat} (h : SlD W B A l) {B' : Nat} (hb : Below B' W W') (hB : B ≤ B') : SlD W' B A l := fun hl => by
  obtain ⟨b, o, e, hlt, hc⟩ := h hl
  exact ⟨b, o, e, hlt, fun j p hp => (hc j p hp).next hb (by omega)⟩
theorem SlD.more {W : World} {B B' : Nat} {A : Option Addr} {l : List Dat} (h : SlD W B A l) (hB : B ≤ B') : SlD W B' A l := fun hl => by
  obtain ⟨b, o, e, hlt, hc⟩ := h hl
  exact ⟨b, o, e, by omega, hc⟩
theorem SlD.at_ {W : World} {B : Nat} {A : Option Addr} {l : List Dat} (h : SlD W B A l) {j : Nat} (hj : j < l.length) : ∃ b o, A = some ⟨b, o, none⟩ ∧ b < B ∧ DtAt W b (o + j * 9) l[j] := by
  obtain ⟨b, o, e, hlt, hc⟩ := h (by intro e; rw [e] at hj; simp at hj)
  exact ⟨b, o, e, hlt, hc j _ (List.getElem?_eq_getElem hj)⟩
/-- a slice of datoms in blocks from B on, which the call has to itself -/
def OwnD (W : World) (B : Nat) (v : Value) (l : List Dat) : Prop := W.ownsRow B 44 9 v l.length (l.flatMap cellsD)
theorem flatD {l : List Dat} {j i : Nat} (hi : i < 9) : (l.flatMap cellsD)[j * 9 + i]? = l[j]?.bind fun x => (cellsD x)[i]? := flatG cellsD_len hi
theorem flatD_len (l : List Dat) : (l.flatMap cellsD).length = l.length * 9 := flatG_len cellsD_len l
theorem cellsD_all (l : List Dat) : ∀ u ∈ l.flatMap cellsD, u.oneCell' = true := fun u hu => by
  obtain ⟨s, _, hs⟩ := List.mem_flatMap.1 hu
  exact cellsD_one s u hs
theorem OwnD.form {W : World} {B : Nat} {v : Value} {l : List Dat} (h : OwnD W B v l) : ∃ A c, v = .slice A l.length c ∧ SlD W W.heap.size A l ∧ l.length ≤ c ∧ c ≤ maxLen ∧ (A = none → l.length = 0 ∧ c = 0) ∧ (∀ a, A = some a → a.spot = none) := by
  rcases h.2 with ⟨rfl, h0⟩ | ⟨g, cap, cur, rfl, _, hgb, h1, h2, _⟩
  · exact ⟨none, 0, by rw [h0], fun hl => absurd (List.length_eq_zero_iff.1 h0) hl, by omega, Nat.zero_le _, fun _ => ⟨h0, rfl⟩, fun a ha => by cases ha⟩
  · refine ⟨_, _, rfl, fun _ => ⟨g, 0, rfl, (Array.getElem?_eq_some_iff.1 hgb).1, fun j p hp => ?_⟩, h1, h2, (fun e => by cases e), (fun a ha => by cases ha; rfl)⟩
    have hr : W.ownsRow B 44 9 (.slice (some ⟨g, 0, none⟩) l.length cap) l.length (l.flatMap cellsD) := h
    have hj : j < l.length := (List.getElem?_eq_some_iff.1 hp).1
    rw [Nat.zero_add]
    intro i hi
    rw [hr.cellAt (j * 9 + i) (by omega), flatD hi, hp]; rfl
theorem SlD.news {W : World} {B : Nat} {A : Option Addr} {l : List Dat} (h : SlD W B A l) (ad : Addr) (hA : A = some ad) (j : Nat) (u : Value) (hu : (l.flatMap cellsD)[j]? = some u) : W.cell? (ad.add j) = some u := by
  have hj := (List.getElem?_eq_some_iff.1 hu).1
  rw [flatD_len] at hj
  obtain ⟨b, o, e, _, hc⟩ := h (fun e => by rw [e] at hj; simp at hj)
  rw [hA] at e
  cases e
  rw [addI]
  obtain ⟨k, i, hi, rfl⟩ : ∃ k i, i < 9 ∧ j = k * 9 + i := ⟨j / 9, j % 9, by omega, by omega⟩
  rw [flatD hi] at hu
  obtain ⟨s, hs, hu⟩ := Option.bind_eq_some_iff.1 hu
  rw [← Nat.add_assoc, hc k s hs i hi]
  exact hu
theorem ownD_of {W : World} {B m : Nat} {v : Value} {a b : List Dat} (h : W.ownsRow B 44 9 v m (a.flatMap cellsD ++ b.flatMap cellsD)) : OwnD W B v (a ++ b) := by
  have h1 := h.1
  rw [← List.flatMap_append, flatD_len] at h1
  obtain rfl : m = (a ++ b).length := by omega
  show World.ownsRow _ _ _ _ _ _ _
  rw [List.flatMap_append]
  exact h
theorem below_ownD {W w1 : World} {B : Nat} {v : Value} {l : List Dat} (h : OwnD W B v l) (hg : W.grownBy w1 v.ownBlock) (hB : B ≤ W.heap.size) : Below B W w1 :=
  (Below.refl B W).grown hg hB (fun k hk => (World.ownsRow.lt h k hk).1)
theorem OwnD.low {W : World} {B B' : Nat} {v : Value} {l : List Dat} (h : OwnD W B v l) (hB : B' ≤ B) : OwnD W B' v l := by
  refine ⟨h.1, ?_⟩
  rcases h.2 with h | ⟨g, cap, cur, h1, h2, h3⟩
  · exact .inl h
  · exact .inr ⟨g, cap, cur, h1, by omega, h3⟩
theorem OwnD.next {W W' : World} {B : Nat} {v : Value} {l : List Dat} (h : OwnD W B v l) (hb : Below W.heap.size W W') : OwnD W' B v l := by
  refine ⟨h.1, ?_⟩
  rcases h.2 with h | ⟨g, cap, cur, h1, h2, h3, h4⟩
  · exact .inl h
  · exact .inr ⟨g, cap, cur, h1, h2, (hb.block g (Array.getElem?_eq_some_iff.1 h3).1).trans h3, h4⟩
theorem infoD : (Tryz.prog.info? 44).map (fun i => (i.zero, i.size, i.bytes)) = some (some (.agg #[.int .i64 0, .int .i64 0, .int .i64 0, .int .i64 0, .string ⟨#[]⟩, .int .i64 0, .bool false, .int .i64 0, .int .i64 0]), 9, 80) := by kernel_rfl
theorem litD (w3 : World) (x : Dat) (ad : Addr) (h : some (⟨w3.heap.size, 0, none⟩ : Addr) = some ad) (j : Nat) (u : Value) (hu : ([x].flatMap cellsD)[j]? = some u) :
    (w3.alloc (.cells #[.int .i64 x.e, .int .i64 x.a, .int .i64 x.k, .int .i64 x.m, .string x.s, .int .i64 x.t, .bool x.add, .int .i64 x.fr, .int .i64 x.til] 44)).cell? (ad.add j) = some u := by
  cases h
  rw [addI, Nat.zero_add, World.cell?_alloc_new]
  simpa [cellsD] using hu
/-- where a slice's rest stands -/
def cutD (A : Option Addr) (c k : Nat) : Option Addr := if c = k then A else A.map (·.add (k * 9))
theorem cutD_none {A : Option Addr} {c k : Nat} (h : cutD A c k = none) : A = none := by
  unfold cutD at h
  split at h
  · exact h
  · simpa using h
theorem sliceD_from (A : Option Addr) (n c k : Nat) (hk : k ≤ n) (_hc : n ≤ c) (w : World) : (Instr.slice 22 (.slice A n c) (some (.int .i64 (k : Int))) none none).run Tryz.prog w = .ok (.slice (cutD A c k) (n - k) (c - k)) w := by
  have hT : Tryz.prog.underlying 22 = some (.slice (Tryz.prog.elem 22)) := by kernel_rfl
  have hS : (Go.sizeOf (Tryz.prog.elem 22)).run Tryz.prog w = .ok 9 w := by kernel_rfl
  rw [run_slice_l (w := w) 22 A n c hT .i64 (k : Int) (by omega) (by omega), hS]
  simp [Result.andThen, sliced, cutD]
theorem cutD_zero (A : Option Addr) (c : Nat) : cutD A c 0 = A := by
  unfold cutD
  split
  · rfl
  · cases A with
    | none => rfl
    | some a =>
      show some (a.add (0 * 9)) = some a
      rw [Nat.zero_mul]
      congr 1
theorem sliceD_to (A : Option Addr) (n c k : Nat) (hk : k ≤ c) (w : World) : (Instr.slice 22 (.slice A n c) none (some (.int .i64 (k : Int))) none).run Tryz.prog w = .ok (.slice A k c) w := by
  have hT : Tryz.prog.underlying 22 = some (.slice (Tryz.prog.elem 22)) := by kernel_rfl
  have hS : (Go.sizeOf (Tryz.prog.elem 22)).run Tryz.prog w = .ok 9 w := by kernel_rfl
  rw [run_slice_h (w := w) 22 A n c hT .i64 (k : Int) (by omega) (by omega), hS]
  have := cutD_zero A c
  unfold cutD at this
  simp [Result.andThen, sliced]
  simpa using this
theorem SlD.drop {W : World} {B : Nat} {A : Option Addr} {l : List Dat} (h : SlD W B A l) {c : Nat} (k : Nat) (hlc : l.length ≤ c) : SlD W B (cutD A c k) (l.drop k) := fun hl => by
  have hk : k < l.length := by
    rcases Nat.lt_or_ge k l.length with h1 | h1
    · exact h1
    · exact absurd (List.drop_of_length_le h1) hl
  obtain ⟨b, o, rfl, hlt, hc⟩ := h (fun e => by rw [e] at hk; exact absurd hk (Nat.not_lt_zero _))
  unfold cutD
  rw [if_neg (by omega)]
  refine ⟨b, o + k * 9, by show some (Addr.add ⟨b, o, none⟩ (k * 9)) = _; rw [addI], hlt, fun j p hp => ?_⟩
  rw [List.getElem?_drop] at hp
  have := hc (k + j) p hp
  rwa [show o + (k + j) * 9 = o + k * 9 + j * 9 from by omega] at this
theorem SlD.take {W : World} {B : Nat} {A : Option Addr} {l : List Dat} (h : SlD W B A l) (k : Nat) : SlD W B A (l.take k) := fun hl => by
  obtain ⟨b, o, e, hlt, hc⟩ := h (fun e => hl (by rw [e]; simp))
  refine ⟨b, o, e, hlt, fun j p hp => hc j p ?_⟩
  rw [List.getElem?_take] at hp
  split at hp
  · exact hp
  · cases hp
end Go.Proofs.YthdjlaombbeagaaGreat

/-
  ARGUMENTS: a slice of bytes that came in; that it reads behind the call as before.
-/
namespace Go.Proofs.YthdjlaombbeagaaGreat
open Go.ChangeShapes Go.WideShapes Go.ChangeAt Go.RowKit Go.Joins

theorem laidOut : laidOutB Tryz.prog = true := by kernel_rfl
theorem cell_lt {W : World} {a : Addr} {v : Value} (h : W.cell? a = some v) : a.block < W.heap.size := by
  unfold World.cell? at h
  cases hb : W.heap[a.block]? with
  | none => rw [hb] at h; cases h
  | some o => exact (Array.getElem?_eq_some_iff.1 hb).1
section
variable {H : Type} {enc : TypeId × Value → H}
end

end Go.Proofs.YthdjlaombbeagaaGreat
