import Derived.Test.YtlmihlepaoifiaaGreatProg
import Derived.Below
import Derived.WalkKit
import Derived.WalkSpells
import Derived.Maps.OwnSet
import Derived.Maps.Views
import Derived.ChangeKeys
import Derived.DeepKeys4
import Derived.Deep.LoopGhost
import Derived.Lib.Hide
import Derived.Laws.ResultCell
import Derived.Test.YtlmihlepaoifiaaGreatJFSame
import Derived.Test.YtlmihlepaoifiaaGreatJFMay
import Derived.Test.YtlmihlepaoifiaaGreatJVSl
/-
  ATTRIBUTES (package schema): what of one stays, as a map's key; slices of attributes.
-/
namespace Go.Proofs.YtlmihlepaoifiaaGreat
open Go.RowKit Go.Maps

structure Att where
  id : Int
  nm : ByteArray
  ty : Int
  many : Bool
  un : Int
  part : Bool
  ix : Bool
structure AttOk (a : Att) : Prop where
  id : (Lit.int .i64 a.id).wf = true
  ty : (Lit.int .i64 a.ty).wf = true
  nm : a.nm.size ≤ maxLen
def cellsA (a : Att) : List Value := [.int .i64 a.id, .string a.nm, .int .i64 a.ty, .bool a.many, .int .i64 a.un, .bool a.part, .bool a.ix]
/-- one attribute's cells -/
def AtAt (W : World) (b o : Nat) (a : Att) : Prop := ∀ i, i < 7 → W.cell? ⟨b, o + i, none⟩ = (cellsA a)[i]?
theorem AtAt.c0 {W : World} {b o : Nat} {d : Att} (h : AtAt W b o d) : W.cell? ⟨b, o, none⟩ = some (.int .i64 d.id) := h 0 (by decide)
theorem AtAt.c1 {W : World} {b o : Nat} {d : Att} (h : AtAt W b o d) : W.cell? ⟨b, o + 1, none⟩ = some (.string d.nm) := h 1 (by decide)
theorem AtAt.c2 {W : World} {b o : Nat} {d : Att} (h : AtAt W b o d) : W.cell? ⟨b, o + 2, none⟩ = some (.int .i64 d.ty) := h 2 (by decide)
theorem AtAt.c3 {W : World} {b o : Nat} {d : Att} (h : AtAt W b o d) : W.cell? ⟨b, o + 3, none⟩ = some (.bool d.many) := h 3 (by decide)
theorem AtAt.c4 {W : World} {b o : Nat} {d : Att} (h : AtAt W b o d) : W.cell? ⟨b, o + 4, none⟩ = some (.int .i64 d.un) := h 4 (by decide)
theorem AtAt.c5 {W : World} {b o : Nat} {d : Att} (h : AtAt W b o d) : W.cell? ⟨b, o + 5, none⟩ = some (.bool d.part) := h 5 (by decide)
theorem AtAt.c6 {W : World} {b o : Nat} {d : Att} (h : AtAt W b o d) : W.cell? ⟨b, o + 6, none⟩ = some (.bool d.ix) := h 6 (by decide)
theorem AtAt.next {W W' : World} {B b o : Nat} {d : Att} (h : AtAt W b o d) (hb : Below B W W') (hB : b < B) : AtAt W' b o d := fun i hi => (hb.cell (p := ⟨b, o + i, none⟩) hB).trans (h i hi)
/-- a slice that reads as these attributes, in blocks below B -/
def SlA (W : World) (B : Nat) (A : Option Addr) (l : List Att) : Prop :=
  l ≠ [] → ∃ b o, A = some ⟨b, o, none⟩ ∧ b < B ∧ ∀ (j : Nat) (v : Att), l[j]? = some v → AtAt W b (o + j * 7) v
theorem SlA.next {W W' : World} {B : Nat} {A : Option Addr} {l : List Att} (h : SlA W B A l) {B' : Nat} (hb : Below B' W W') (hB : B ≤ B') : SlA W' B A l := fun hl => by
  obtain ⟨b, o, e, hlt, hc⟩ := h hl
  exact ⟨b, o, e, hlt, fun j p hp => (hc j p hp).next hb (by omega)⟩
theorem SlA.more {W : World} {B B' : Nat} {A : Option Addr} {l : List Att} (h : SlA W B A l) (hB : B ≤ B') : SlA W B' A l := fun hl => by
  obtain ⟨b, o, e, hlt, hc⟩ := h hl
  exact ⟨b, o, e, by omega, hc⟩
theorem SlA.at_ {W : World} {B : Nat} {A : Option Addr} {l : List Att} (h : SlA W B A l) {j : Nat} (hj : j < l.length) : ∃ b o, A = some ⟨b, o, none⟩ ∧ b < B ∧ AtAt W b (o + j * 7) l[j] := by
  obtain ⟨b, o, e, hlt, hc⟩ := h (by intro e; rw [e] at hj; simp at hj)
  exact ⟨b, o, e, hlt, hc j _ (List.getElem?_eq_getElem hj)⟩

end Go.Proofs.YtlmihlepaoifiaaGreat

/-
  CONTRACTS: the document's ByName and ByID.
-/
namespace Go.Proofs.YtlmihlepaoifiaaGreat
open Go.RowKit

def zA : Att := ⟨0, ⟨#[]⟩, 0, false, 0, false, false⟩
def attV (a : Att) : Value := .agg #[.int .i64 a.id, .string a.nm, .int .i64 a.ty, .bool a.many, .int .i64 a.un, .bool a.part, .bool a.ix]
/-- what was found, and whether -/
def fndV (o : Option Att) : Value := .tuple #[attV (o.getD zA), .bool o.isSome]
def idP (s : Int) (a : Att) : Bool := decide (a.id = s)
/-- an attribute in a box -/
def BxA (W : World) (b : Nat) (d : Att) : Prop := W.heap[b]? = some (.cells #[.int .i64 d.id, .string d.nm, .int .i64 d.ty, .bool d.many, .int .i64 d.un, .bool d.part, .bool d.ix] 43 (0, 0))
theorem BxA.cell {W : World} {b : Nat} {d : Att} (h : BxA W b d) (j : Nat) : W.cell? ⟨b, j, none⟩ = (#[Value.int .i64 d.id, .string d.nm, .int .i64 d.ty, .bool d.many, .int .i64 d.un, .bool d.part, .bool d.ix])[j]? := by unfold BxA at h; simp [World.cell?, h]
theorem BxA.fz {W : World} {b : Nat} {d : Att} (h : BxA W b d) (j : Nat) : W.frozen? ⟨b, j, none⟩ = false := by unfold BxA at h; simp [World.frozen?, h]
theorem BxA.next {W W' : World} {b B : Nat} {d : Att} (h : BxA W b d) (hb : Below B W W') (hB : b < B) : BxA W' b d := (hb.block b hB).trans h
theorem bxA_new (W : World) (d : Att) : BxA (W.alloc (.cells #[.int .i64 d.id, .string d.nm, .int .i64 d.ty, .bool d.many, .int .i64 d.un, .bool d.part, .bool d.ix] 43)) W.heap.size d := heap_alloc_new W _
theorem BxA.set7 {W : World} {b : Nat} {d : Att} (h : BxA W b d) (q : Att) :
    BxA (((((((W.setCell ⟨b, 0, none⟩ (.int .i64 q.id)).setCell ⟨b, 1, none⟩ (.string q.nm)).setCell ⟨b, 2, none⟩ (.int .i64 q.ty)).setCell ⟨b, 3, none⟩ (.bool q.many)).setCell ⟨b, 4, none⟩ (.int .i64 q.un)).setCell ⟨b, 5, none⟩ (.bool q.part)).setCell ⟨b, 6, none⟩ (.bool q.ix)) b q :=
  (heap_setCell_same _ _ _ _ _ _ (heap_setCell_same _ _ _ _ _ _ (heap_setCell_same _ _ _ _ _ _ (heap_setCell_same _ _ _ _ _ _ (heap_setCell_same _ _ _ _ _ _ (heap_setCell_same _ _ _ _ _ _ (heap_setCell_same _ _ _ _ _ _ h))))))).trans (by simp)
theorem below_set7 {W : World} {B b : Nat} (hb : B ≤ b) (u0 u1 u2 u3 u4 u5 u6 : Value) :
    Below B W (((((((W.setCell ⟨b, 0, none⟩ u0).setCell ⟨b, 1, none⟩ u1).setCell ⟨b, 2, none⟩ u2).setCell ⟨b, 3, none⟩ u3).setCell ⟨b, 4, none⟩ u4).setCell ⟨b, 5, none⟩ u5).setCell ⟨b, 6, none⟩ u6) :=
  ((((((((Below.refl B W).setCell (p := ⟨b, 0, none⟩) hb _).setCell (p := ⟨b, 1, none⟩) hb _).setCell (p := ⟨b, 2, none⟩) hb _).setCell (p := ⟨b, 3, none⟩) hb _).setCell (p := ⟨b, 4, none⟩) hb _).setCell (p := ⟨b, 5, none⟩) hb _).setCell (p := ⟨b, 6, none⟩) hb _)
theorem find_step {l : List Att} {p : Att → Bool} {j : Nat} (h : j < l.length) : (l.drop j).find? p = if p l[j] then some l[j] else (l.drop (j + 1)).find? p := by
  rw [List.drop_eq_getElem_cons h, List.find?_cons]
  cases p l[j] <;> rfl

set_option maxRecDepth 100000 in
set_option maxHeartbeats 2000000 in
theorem refByID_any (A : Option Addr) (c : Nat) (l : List Att) (s : Int) (w : World) (hs : SlA w w.heap.size A l) (hl : l.length ≤ 2000000000000) :
    Calls Tryz.prog 10 #[.slice A l.length c, .int .i64 s] w fun e w' => e = .returned (fndV (l.find? (idP s))) ∧ Below w.heap.size w w' := by
  have hb0 : Below w.heap.size w (w.alloc (.cells #[.int .i64 0, .string ⟨#[]⟩, .int .i64 0, .bool false, .int .i64 0, .bool false, .bool false] 43)) := (Below.refl _ _).alloc (Nat.le_refl _) _
  have HB0 := Lib.hid hb0
  have HS := Lib.hid (hs.next hb0 (Nat.le_refl _))
  clear hs hb0
  go_enter Tryz.func10, Tryz.ntmps10
  go_wp2
  go_loopg [6] l.length (fun g i wr => ∃ j : Nat, i = .int .i64 j ∧ j + g = l.length ∧ Hid ((l.drop j).find? (idP s) = l.find? (idP s)) ∧ wr = w.alloc (.cells #[.int .i64 0, .string ⟨#[]⟩, .int .i64 0, .bool false, .int .i64 0, .bool false, .bool false] 43))
  case atStart => exact ⟨0, rfl, by omega, rfl, rfl⟩
  case round =>
    obtain ⟨j, rfl, hj, HJ, rfl⟩ := hrel
    cases gk with
    | zero =>
      have hji : ¬ (j : Int) < (l.length : Int) := by omega
      have HE : Hid (l.find? (idP s) = none) := by
        show _ = _
        rw [← HJ.out, List.drop_eq_nil_of_le (by omega)]
        rfl
      go_wp2
      refine bodyPost_ret (v := .tuple #[.agg #[.int .i64 0, .string ⟨#[]⟩, .int .i64 0, .bool false, .int .i64 0, .bool false, .bool false], .bool false]) ?_ rfl ⟨by rw [HE.out]; rfl, HB0.out⟩
      rw [results_cell_tmp rfl]
      go_simp
    | succ g =>
      have hji : (j : Int) < (l.length : Int) := by omega
      have hjn : j < l.length := by omega
      obtain ⟨b, o, rfl, hlt, hp⟩ := HS.out.at_ hjn
      have hd := find_step (p := idP s) hjn
      obtain ⟨y, hy⟩ : ∃ y, l[j] = y := ⟨_, rfl⟩
      rw [hy] at hp hd
      rw [HJ.out] at hd
      have HD := Lib.hid hd
      have y0 := hp.c0
      have y1 := hp.c1
      have y2 := hp.c2
      have y3 := hp.c3
      have y4 := hp.c4
      have y5 := hp.c5
      have y6 := hp.c6
      clear hp hy hd
      by_cases e0 : y.id = s
      · have q0 : (y.id == s) = true := by rw [e0, beq_self_eq_true]
        have HE : Hid (l.find? (idP s) = some y) := by
          show _ = _
          rw [HD.out, if_pos (show idP s y = true from decide_eq_true e0)]
        clear e0
        go_wp2
        refine bodyPost_ret (v := .tuple #[.agg #[.int .i64 y.id, .string y.nm, .int .i64 y.ty, .bool y.many, .int .i64 y.un, .bool y.part, .bool y.ix], .bool true]) ?_ rfl ⟨by rw [HE.out]; rfl, ?_⟩
        · rw [results_cell_tmp rfl]
          go_simp
        · exact (Below.refl _ _).alloc (Nat.le_refl _) _
      · have q0 : (y.id == s) = false := beq_eq_false_iff_ne.2 e0
        have HN : Hid ((l.drop (j + 1)).find? (idP s) = l.find? (idP s)) := by
          show _ = _
          rw [HD.out, if_neg (show ¬ idP s y = true from fun h => e0 (of_decide_eq_true h))]
        clear e0
        go_wp2
        go_roundg g
        case measure => omega
        case rel => exact ⟨j + 1, by go_num, by omega, HN, rfl⟩
end Go.Proofs.YtlmihlepaoifiaaGreat

/-
  CONTRACTS: numberOf, isTrue.
-/
namespace Go.Proofs.YtlmihlepaoifiaaGreat
open Go.RowKit

def numA (k n most : Int) : Int := if k = 1 ∧ 1 ≤ n ∧ n ≤ most then n else 0
def trueA (k n : Int) : Bool := decide (k = 2) && decide (n = 1)
set_option maxHeartbeats 1000000 in
theorem isTrue_any (k n : Int) (s : ByteArray) (w : World) : Calls Tryz.prog 66 #[.agg #[.int .i64 k, .int .i64 n, .string s]] w fun e w' => e = .returned (.bool (trueA k n)) ∧ Below w.heap.size w w' := by
  by_cases h1 : k = 2
  · have q1 : (k == 2) = true := by rw [h1]; rfl
    by_cases h2 : n = 1
    · have q2 : (n == 1) = true := by rw [h2]; rfl
      have HE : Hid (trueA k n = true) := by show _ = _; simp [trueA, h1, h2]
      clear h1 h2
      go_enter Tryz.func66, Tryz.ntmps66
      go_wp2
      go_ret
      exact ⟨by rw [HE.out]; rfl, (Below.refl _ _).alloc (Nat.le_refl _) _⟩
    · have q2 : (n == 1) = false := beq_eq_false_iff_ne.2 h2
      have HE : Hid (trueA k n = false) := by show _ = _; simp [trueA, h2]
      clear h1 h2
      go_enter Tryz.func66, Tryz.ntmps66
      go_wp2
      go_ret
      exact ⟨by rw [HE.out]; rfl, (Below.refl _ _).alloc (Nat.le_refl _) _⟩
  · have q1 : (k == 2) = false := beq_eq_false_iff_ne.2 h1
    have HE : Hid (trueA k n = false) := by show _ = _; simp [trueA, h1]
    clear h1
    go_enter Tryz.func66, Tryz.ntmps66
    go_wp2
    go_ret
    exact ⟨by rw [HE.out]; rfl, (Below.refl _ _).alloc (Nat.le_refl _) _⟩
set_option maxHeartbeats 1000000 in
theorem numberOf_any (k n most : Int) (s : ByteArray) (w : World) : Calls Tryz.prog 65 #[.agg #[.int .i64 k, .int .i64 n, .string s], .int .i64 most] w fun e w' => e = .returned (.int .i64 (numA k n most)) ∧ Below w.heap.size w w' := by
  by_cases h1 : k = 1
  · have q1 : (k != 1) = false := by rw [h1]; rfl
    by_cases h2 : n < 1
    · have q2 : decide (n < 1) = true := decide_eq_true h2
      have HE : Hid (numA k n most = 0) := by show _ = _; unfold numA; rw [if_neg]; omega
      clear h1 h2
      go_enter Tryz.func65, Tryz.ntmps65
      go_wp2
      go_ret
      exact ⟨by rw [HE.out]; rfl, (Below.refl _ _).alloc (Nat.le_refl _) _⟩
    · have q2 : decide (n < 1) = false := decide_eq_false h2
      by_cases h3 : most < n
      · have q3 : decide (most < n) = true := decide_eq_true h3
        have HE : Hid (numA k n most = 0) := by show _ = _; unfold numA; rw [if_neg]; omega
        clear h1 h2 h3
        go_enter Tryz.func65, Tryz.ntmps65
        go_wp2
        go_ret
        exact ⟨by rw [HE.out]; rfl, (Below.refl _ _).alloc (Nat.le_refl _) _⟩
      · have q3 : decide (most < n) = false := decide_eq_false h3
        have HE : Hid (numA k n most = n) := by show _ = _; unfold numA; rw [if_pos]; omega
        clear h1 h2 h3
        go_enter Tryz.func65, Tryz.ntmps65
        go_wp2
        go_ret
        exact ⟨by rw [HE.out]; rfl, (Below.refl _ _).alloc (Nat.le_refl _) _⟩
  · have q1 : (k != 1) = true := bne_iff_ne.2 h1
    have HE : Hid (numA k n most = 0) := by show _ = _; unfold numA; rw [if_neg]; omega
    clear h1
    go_enter Tryz.func65, Tryz.ntmps65
    go_wp2
    go_ret
    exact ⟨by rw [HE.out]; rfl, (Below.refl _ _).alloc (Nat.le_refl _) _⟩
end Go.Proofs.YtlmihlepaoifiaaGreat

/-
  MADE: what an entity's facts make, gathered fact by fact; stores into an attribute's box.
-/
namespace Go.Proofs.YtlmihlepaoifiaaGreat
open Go.RowKit

/-- what was gathered: the attribute, and how often its name and its type were told -/
structure MdS where
  at' : Att
  nn : Nat
  tn : Nat
def stepM (q : MdS) (f : FactP) : MdS :=
  if f.a = 1 then ⟨if f.k = 7 then { q.at' with nm := f.s } else q.at', q.nn + 1, q.tn⟩
  else if f.a = 2 then ⟨{ q.at' with ty := numA f.k f.m 7 }, q.nn, q.tn + 1⟩
  else if f.a = 3 then { q with at' := { q.at' with many := q.at'.many || trueA f.k f.m } }
  else if f.a = 4 then { q with at' := { q.at' with un := max q.at'.un (numA f.k f.m 2) } }
  else if f.a = 5 then { q with at' := { q.at' with part := q.at'.part || trueA f.k f.m } }
  else if f.a = 6 then { q with at' := { q.at' with ix := q.at'.ix || trueA f.k f.m } }
  else q
def iniM (id : Int) : MdS := ⟨{ zA with id := id }, 0, 0⟩
def foldM (id : Int) (l : List FactP) : MdS := l.foldl stepM (iniM id)
def okM (q : MdS) : Bool := !(decide (q.at'.id < 10) || decide (q.nn ≠ 1) || decide (q.tn ≠ 1) || decide (q.at'.nm = ⟨#[]⟩) || decide (q.at'.ty = 0))
def madeL (q : MdS) : Option Att := if okM q then some q.at' else none
theorem foldM_at (id : Int) (fs : List FactP) {j : Nat} {f : FactP} (h : fs[j]? = some f) : foldM id (fs.take (j + 1)) = stepM (foldM id (fs.take j)) f := by
  unfold foldM
  rw [List.take_add_one, h, Option.toList_some, List.foldl_append]
  rfl
theorem BxA.st1 {W : World} {b : Nat} {d : Att} (h : BxA W b d) (u : ByteArray) : BxA (W.setCell ⟨b, 1, none⟩ (.string u)) b { d with nm := u } := (heap_setCell_same _ _ _ _ _ _ h).trans (by simp)
theorem BxA.st2 {W : World} {b : Nat} {d : Att} (h : BxA W b d) (u : Int) : BxA (W.setCell ⟨b, 2, none⟩ (.int .i64 u)) b { d with ty := u } := (heap_setCell_same _ _ _ _ _ _ h).trans (by simp)
theorem BxA.st3 {W : World} {b : Nat} {d : Att} (h : BxA W b d) (u : Bool) : BxA (W.setCell ⟨b, 3, none⟩ (.bool u)) b { d with many := u } := (heap_setCell_same _ _ _ _ _ _ h).trans (by simp)
theorem BxA.st4 {W : World} {b : Nat} {d : Att} (h : BxA W b d) (u : Int) : BxA (W.setCell ⟨b, 4, none⟩ (.int .i64 u)) b { d with un := u } := (heap_setCell_same _ _ _ _ _ _ h).trans (by simp)
theorem BxA.st5 {W : World} {b : Nat} {d : Att} (h : BxA W b d) (u : Bool) : BxA (W.setCell ⟨b, 5, none⟩ (.bool u)) b { d with part := u } := (heap_setCell_same _ _ _ _ _ _ h).trans (by simp)
theorem BxA.st6 {W : World} {b : Nat} {d : Att} (h : BxA W b d) (u : Bool) : BxA (W.setCell ⟨b, 6, none⟩ (.bool u)) b { d with ix := u } := (heap_setCell_same _ _ _ _ _ _ h).trans (by simp)
theorem below_st {W : World} {B b : Nat} (hb : B ≤ b) (j : Nat) (u : Value) : Below B W (W.setCell ⟨b, j, none⟩ u) := (Below.refl B W).setCell (p := ⟨b, j, none⟩) hb _
end Go.Proofs.YtlmihlepaoifiaaGreat

/-
  CONTRACTS of the document's own answer: values (what an entity's attribute has), yes.
-/
namespace Go.Proofs.YtlmihlepaoifiaaGreat
open Go.RowKit Go.Shelf

def isEA (e a : Int) (f : FactP) : Bool := decide (f.e = e) && decide (f.a = a)
def vlF (f : FactP) : Vl := (f.k, f.m, f.s)
/-- what an entity's attribute has -/
def valsL (e a : Int) (fs : List FactP) : List Vl := (fs.filter (isEA e a)).map vlF
def yesL (l : List Vl) : Bool := l.any fun v => trueA v.1 v.2.1
theorem valsL_take (e a : Int) (fs : List FactP) {j : Nat} {f : FactP} (h : fs[j]? = some f) : valsL e a (fs.take (j + 1)) = valsL e a (fs.take j) ++ (if isEA e a f then [vlF f] else []) := by
  unfold valsL
  rw [List.take_add_one, h, Option.toList_some, List.filter_append, List.map_append]
  congr 1
  cases hb : isEA e a f <;> simp [hb]
theorem valsL_len (e a : Int) (fs : List FactP) : (valsL e a fs).length ≤ fs.length := by
  unfold valsL
  rw [List.length_map]
  exact List.length_filter_le _ _
theorem OwnV.kept' {W W' : World} {B : Nat} {v : Value} {l : List Vl} (h : OwnV W B v l) (hb : Below W.heap.size W W') : OwnV W' B v l := by
  refine ⟨h.1, ?_⟩
  rcases h.2 with h | ⟨g, cap, cur, h1, h2, h3, h4⟩
  · exact .inl h
  · exact .inr ⟨g, cap, cur, h1, h2, (hb.block g (Array.getElem?_eq_some_iff.1 h3).1).trans h3, h4⟩
set_option maxRecDepth 100000 in
set_option maxHeartbeats 2000000 in
theorem refValues_any (e a : Int) (A : Option Addr) (c : Nat) (fs : List FactP) (w : World) (hs : FVa w (.slice A fs.length c) fs) (hl : fs.length ≤ 1954687338268) :
    Calls Tryz.prog 58 #[.slice A fs.length c, .int .i64 e, .int .i64 a] w fun r w' => (∃ v, r = .returned v ∧ OwnV w' w.heap.size v (valsL e a fs)) ∧ Below w.heap.size w w' := by
  obtain ⟨i0, hi, hz0, hz1, hz2⟩ := info_parts info22
  have hmx : 3000000000000 ≤ maxLen := by decide
  have HS := Lib.hid hs
  clear hs
  go_enter Tryz.func58, Tryz.ntmps58
  go_wp2
  go_loopg [7, 8] fs.length (fun g x y wr => ∃ (j : Nat) (ps : List Vl), y = .int .i64 j ∧ j + g = fs.length ∧ Hid (OwnV wr w.heap.size x ps) ∧ Hid (ps = valsL e a (fs.take j)) ∧ Hid (ps.length ≤ j) ∧ Hid (Below w.heap.size w wr))
  case atStart => exact ⟨0, [], rfl, by omega, World.ownsRow_nil _ _ _ _, rfl, Nat.le_refl _, Below.refl _ _⟩
  case round =>
    obtain ⟨j, ps, rfl, hj, HO, HP, HPL, HB⟩ := hrel
    cases gk with
    | zero =>
      have hjz : ¬ ((j : Int) < (fs.length : Int)) := by omega
      have HE : Hid (ps = valsL e a fs) := by
        have := HP.out
        rwa [List.take_of_length_le (by omega)] at this
      go_wp2
      go_ret
      exact ⟨⟨_, rfl, by rw [← HE.out]; exact HO.out⟩, HB.out⟩
    | succ g =>
      have hjz : (j : Int) < (fs.length : Int) := by omega
      have hjn : j < fs.length := by omega
      obtain ⟨b, o, sv, rfl, hlt, hc, _⟩ := fva_at HS.out hjn
      obtain ⟨f, hf⟩ : ∃ f, fs[j] = f := ⟨_, rfl⟩
      rw [hf] at hc
      have HTK := Lib.hid (valsL_take e a fs (j := j) (f := f) (by rw [List.getElem?_eq_getElem hjn, hf]))
      have hcr := hc.next HB.out hlt
      have c0 := hcr.1
      have c1 := hcr.2.1
      have c2 := hcr.2.2.1
      have c3 := hcr.2.2.2.1
      have c4 := hcr.2.2.2.2.1
      clear hf hc hcr
      by_cases e0 : f.e = e
      · have q0 : (f.e == e) = true := by rw [e0, beq_self_eq_true]
        by_cases e1 : f.a = a
        · have q1 : (f.a == a) = true := by rw [e1, beq_self_eq_true]
          have HN : Hid (valsL e a (fs.take (j + 1)) = valsL e a (fs.take j) ++ [vlF f]) := by show _ = _; rw [HTK.out]; simp [isEA, e0, e1]
          have hbl := (Below.refl wr.heap.size wr).alloc (Nat.le_refl _) (.cells #[.int .i64 f.k, .int .i64 f.m, .string f.s] 28)
          have HOA := Lib.hid (HO.out.kept' hbl)
          have HBA := Lib.hid (HB.out.trans (hbl.mono HB.out.size))
          clear hbl e0 e1
          go_wp2_with (at_builtin; refine wpList_append_own _ rfl _ _ 88 rfl w.heap.size 28 i0 (.agg #[.int .i64 0, .int .i64 0, .string ⟨#[]⟩]) 3 32 Tryz.underlying88 hi hz0 hz1 hz2 rfl (by decide) _ _ _ rfl HOA.out ⟨wr.heap.size, 0, none⟩ 1 1 (cellsV (vlF f)) rfl rfl (fun j u h => cell_lit wr #[.int .i64 f.k, .int .i64 f.m, .string f.s] 28 j u h) (cellsV_one _) (by have := HPL.out; omega) (by have := HPL.out; omega) HBA.out.size ?_; intro v1 w8 hown hgrow hnil; have HB8 : Hid (Below w.heap.size _ w8) := below_ownV HOA.out hgrow HBA.out.size; have HO8 : Hid (OwnV w8 w.heap.size v1 (ps ++ [vlF f])) := ownV_of (b := [vlF f]) (by simpa using hown); have HBE := Lib.hid (HBA.out.trans HB8.out); clear hown hgrow hnil)
          go_roundg g
          case measure => omega
          case rel => exact ⟨j + 1, ps ++ [vlF f], by go_num, by omega, HO8, by show _ = _; rw [HN.out, ← HP.out], by rw [List.length_append]; simp only [List.length_singleton]; have := HPL.out; show _ ≤ _; omega, HBE.out⟩
        · have q1 : (f.a == a) = false := beq_eq_false_iff_ne.2 e1
          have HN : Hid (valsL e a (fs.take (j + 1)) = valsL e a (fs.take j)) := by show _ = _; rw [HTK.out]; simp [isEA, e1]
          clear e0 e1
          go_wp2
          go_roundg g
          case measure => omega
          case rel => exact ⟨j + 1, ps, by go_num, by omega, HO.out, by show _ = _; rw [HN.out]; exact HP.out, by have := HPL.out; show _ ≤ _; omega, HB.out⟩
      · have q0 : (f.e == e) = false := beq_eq_false_iff_ne.2 e0
        have HN : Hid (valsL e a (fs.take (j + 1)) = valsL e a (fs.take j)) := by show _ = _; rw [HTK.out]; simp [isEA, e0]
        clear e0
        go_wp2
        go_roundg g
        case measure => omega
        case rel => exact ⟨j + 1, ps, by go_num, by omega, HO.out, by show _ = _; rw [HN.out]; exact HP.out, by have := HPL.out; show _ ≤ _; omega, HB.out⟩
theorem yesL_drop {l : List Vl} {j : Nat} (h : j < l.length) : yesL (l.drop j) = (trueA l[j].1 l[j].2.1 || yesL (l.drop (j + 1))) := by
  rw [List.drop_eq_getElem_cons h]
  rfl
set_option maxRecDepth 100000 in
set_option maxHeartbeats 2000000 in
theorem refYes_any (A : Option Addr) (c : Nat) (l : List Vl) (w : World) (hs : SlV w w.heap.size A l) (hl : l.length ≤ 1954687338268) :
    Calls Tryz.prog 59 #[.slice A l.length c] w fun r w' => r = .returned (.bool (yesL l)) ∧ w' = w := by
  have HS := Lib.hid hs
  clear hs
  go_enter Tryz.func59, Tryz.ntmps59
  go_wp2
  go_loopg [3] l.length (fun g y wr => ∃ (j : Nat), y = .int .i64 j ∧ j + g = l.length ∧ Hid (yesL (l.drop j) = yesL l) ∧ wr = w)
  case atStart => exact ⟨0, rfl, by omega, rfl, rfl⟩
  case round =>
    obtain ⟨j, rfl, hj, HJ, rfl⟩ := hrel
    cases gk with
    | zero =>
      have hjz : ¬ ((j : Int) < (l.length : Int)) := by omega
      have HE : Hid (yesL l = false) := by
        have := HJ.out
        rw [List.drop_eq_nil_of_le (by omega)] at this
        exact this.symm
      go_wp2
      go_ret
      exact ⟨by rw [HE.out]; rfl, rfl⟩
    | succ g =>
      have hjz : (j : Int) < (l.length : Int) := by omega
      have hjn : j < l.length := by omega
      have hd := yesL_drop hjn
      obtain ⟨b, o, rfl, hlt, hp⟩ := HS.out.at_ hjn
      obtain ⟨x, hx⟩ : ∃ x, l[j] = x := ⟨_, rfl⟩
      rw [hx] at hp hd
      rw [HJ.out] at hd
      have HD := Lib.hid hd
      have c0 := hp.c0
      have c1 := hp.c1
      clear hp hd hx
      by_cases e0 : x.1 = 2
      · have q0 : (x.1 == 2) = true := by rw [e0, beq_self_eq_true]
        by_cases e1 : x.2.1 = 1
        · have q1 : (x.2.1 == 1) = true := by rw [e1, beq_self_eq_true]
          have HE : Hid (yesL l = true) := by show _ = _; rw [HD.out]; simp [trueA, e0, e1]
          clear e0 e1
          go_wp2
          go_ret
          exact ⟨by rw [HE.out]; rfl, rfl⟩
        · have q1 : (x.2.1 == 1) = false := beq_eq_false_iff_ne.2 e1
          have HN : Hid (yesL (l.drop (j + 1)) = yesL l) := by show _ = _; rw [HD.out]; simp [trueA, e1]
          clear e0 e1
          go_wp2
          go_roundg g
          case measure => omega
          case rel => exact ⟨j + 1, by go_num, by omega, HN, rfl⟩
      · have q0 : (x.1 == 2) = false := beq_eq_false_iff_ne.2 e0
        have HN : Hid (yesL (l.drop (j + 1)) = yesL l) := by show _ = _; rw [HD.out]; simp [trueA, e0]
        clear e0
        go_wp2
        go_roundg g
        case measure => omega
        case rel => exact ⟨j + 1, by go_num, by omega, HN, rfl⟩
end Go.Proofs.YtlmihlepaoifiaaGreat
