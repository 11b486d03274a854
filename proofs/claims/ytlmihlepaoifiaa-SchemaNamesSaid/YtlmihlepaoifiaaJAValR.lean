import Derived.Test.YtlmihlepaoifiaaProg
import Derived.Below
import Derived.WalkKit
import Derived.WalkSpells
import Derived.Maps.OwnSet
import Derived.Maps.Views
import Derived.ChangeKeys
import Derived.DeepKeys4
import Derived.Deep.LoopGhost
import Derived.Lib.Hide
import Derived.Laws.ResultCell
import Derived.Test.YtlmihlepaoifiaaJFSame
import Derived.Test.YtlmihlepaoifiaaJFMay
import Derived.Test.YtlmihlepaoifiaaJVSl
/-
  ATTRIBUTES (package schema): what of one stays, as a map's key; slices of attributes.
-/
namespace Go.Proofs.Ytlmihlepaoifiaa
open Go.RowKit Go.Maps

structure Att where
  id : Int
  nm : ByteArray
  ty : Int
  many : Bool
  un : Int
  part : Bool
  ix : Bool
structure AttOk (a : Att) : Prop where
  id : (Lit.int .i64 a.id).wf = true
  ty : (Lit.int .i64 a.ty).wf = true
  nm : a.nm.size ≤ maxLen
def litsA (a : Att) : List Lit := [.int .i64 a.id, .string a.nm.data.toList, .int .i64 a.ty]
def keyA (a : Att) : Lit := .string (keyBytes (litsA a))
def stayA (a : Att) : Value := .agg #[.int .i64 a.id, .string a.nm, .int .i64 a.ty]
def sameA (a b : Att) : Bool := decide (a.id = b.id) && decide (a.nm = b.nm) && decide (a.ty = b.ty)

theorem litsA_wf {a : Att} (h : AttOk a) : ∀ x ∈ litsA a, x.keyWf := by
  intro x hx
  simp [litsA] at hx
  rcases hx with rfl | rfl | rfl
  · exact h.id
  · show a.nm.data.toList.length ≤ maxLen
    rw [Array.length_toList]
    exact h.nm
  · exact h.ty
theorem keyA_same {a b : Att} (ha : AttOk a) (hb : AttOk b) : (keyA a).sameKey (keyA b) = sameA a b := by
  show (keyBytes (litsA a) == keyBytes (litsA b)) = sameA a b
  by_cases e : a.id = b.id ∧ a.nm = b.nm ∧ a.ty = b.ty
  · obtain ⟨e1, e2, e3⟩ := e
    have : litsA a = litsA b := by unfold litsA; rw [e1, e2, e3]
    rw [this]
    simp [sameA, e1, e2, e3]
  · have hne : keyBytes (litsA a) ≠ keyBytes (litsA b) := fun hk => by
      have := keyBytes_inj (l := litsA a) (l' := litsA b) ⟨rfl, trivial, rfl, trivial⟩ (litsA_wf ha) (litsA_wf hb) hk
      simp only [litsA, List.cons.injEq, Lit.int.injEq, Lit.string.injEq, true_and, and_true] at this
      exact e ⟨this.1, ByteArray.ext (Array.toList_inj.1 this.2.1), this.2.2⟩
    have h1 : (keyBytes (litsA a) == keyBytes (litsA b)) = false := beq_eq_false_iff_ne.2 hne
    rw [h1]
    by_cases e1 : a.id = b.id
    · by_cases e2 : a.nm = b.nm
      · have e3 : ¬ a.ty = b.ty := fun e3 => e ⟨e1, e2, e3⟩
        simp [sameA, e3]
      · simp [sameA, e2]
    · simp [sameA, e1]

theorem lawSt : Keyed Try.prog 59 := Keyed.of_law (deep_law_laid (by kernel_rfl) (m := 3) (by omega) (of_decide_eq_true (by kernel_rfl)) (by kernel_rfl) (by kernel_rfl))
theorem zeroSt (w : World) : (zeroValue 57).run Try.prog w = .ok (.agg #[]) w := by kernel_rfl
theorem sizeSt : Try.prog.cellsOf 59 = 3 := by kernel_rfl
theorem sizeI6 : Try.prog.cellsOf 2 = 1 := by kernel_rfl
theorem sizeIn : Try.prog.cellsOf 3 = 1 := by kernel_rfl
theorem sizeSg : Try.prog.cellsOf 9 = 1 := by kernel_rfl
theorem keyTypeSt : Try.prog.keyType 59 = true := by kernel_rfl
theorem keyOf_att {a : Att} (h : AttOk a) : keyOf Try.prog 59 (stayA a) = some (keyA a) := by
  have hi := h.id
  have hty := h.ty
  have hn := h.nm
  have k0 : ∀ d, Try.prog.keyLits (d + 1) 2 [.int .i64 a.id] = some [.int .i64 a.id] := fun d => by
    unfold Program.keyLits; rw [Try.underlying2]; simp [hi]
  have k1 : ∀ d, Try.prog.keyLits (d + 1) 9 [.string a.nm] = some [.string a.nm.data.toList] := fun d => by
    unfold Program.keyLits; rw [Try.underlying9]; simp [hn]
  have k2 : ∀ d, Try.prog.keyLits (d + 1) 3 [.int .i64 a.ty] = some [.int .i64 a.ty] := fun d => by
    unfold Program.keyLits; rw [Try.underlying3]; simp [hty]
  have kk : ∀ d, Try.prog.keyLits (d + 2) 59 [.int .i64 a.id, .string a.nm, .int .i64 a.ty] = some (litsA a) := fun d => by
    unfold Program.keyLits
    rw [Try.underlying59]
    simp [sizeSt, sizeI6, sizeIn, sizeSg, k0, k1, k2, litsA]
  obtain ⟨n, hn2⟩ : ∃ n, Try.prog.types.size + 1 = n + 2 := ⟨Try.prog.types.size - 1, by have : 1 < Try.prog.types.size := of_decide_eq_true (by kernel_rfl); omega⟩
  have hf : (stayA a).formed Try.prog 59 = true := by
    simp [Value.formed, Try.underlying59, sizeSt, stayA]
  unfold keyOf
  rw [Try.underlying59]
  simp only [keyTypeSt, hf, Bool.and_self, if_true]
  have hc : (stayA a).cells.toList = [.int .i64 a.id, .string a.nm, .int .i64 a.ty] := rfl
  rw [hc, hn2, kk]
  rfl

/-- the set of what stays -/
def setA {H : Type} (l : List Att) : DataW H := setOf (.agg []) (l.map keyA)
theorem setA_snoc {H : Type} (l : List Att) (x : Att) : setA (H := H) (l ++ [x]) = (setA l).put (keyA x) (.agg []) := by
  unfold setA
  rw [List.map_append, List.map_singleton, setOf_snoc]
theorem has_setA {H : Type} (l : List Att) (x : Att) (hl : ∀ a ∈ l, AttOk a) (hx : AttOk x) : Maps.has (setA (H := H) l) (keyA x) = l.any (fun a => sameA a x) := by
  unfold setA
  rw [has_setOf _ _ _ (fun y hy => by obtain ⟨_, _, rfl⟩ := List.mem_map.1 hy; trivial), List.any_map]
  induction l with
  | nil => rfl
  | cons a r ih =>
    rw [List.any_cons, List.any_cons, ih (fun y hy => hl y (by simp [hy]))]
    rw [show ((fun y : Lit => y.sameKey (keyA x)) ∘ keyA) a = sameA a x from keyA_same (hl a (by simp)) hx]
/-- 0 where each of l is among r, else 77 -/
def altB (l r : List Att) : Bool := l.all fun x => r.any fun a => sameA a x
def altN (l r : List Att) : Int := if altB l r then 0 else 77
def cellsA (a : Att) : List Value := [.int .i64 a.id, .string a.nm, .int .i64 a.ty, .bool a.many, .int .i64 a.un, .bool a.part, .bool a.ix]
/-- one attribute's cells -/
def AtAt (W : World) (b o : Nat) (a : Att) : Prop := ∀ i, i < 7 → W.cell? ⟨b, o + i, none⟩ = (cellsA a)[i]?
theorem AtAt.c0 {W : World} {b o : Nat} {d : Att} (h : AtAt W b o d) : W.cell? ⟨b, o, none⟩ = some (.int .i64 d.id) := h 0 (by decide)
theorem AtAt.c1 {W : World} {b o : Nat} {d : Att} (h : AtAt W b o d) : W.cell? ⟨b, o + 1, none⟩ = some (.string d.nm) := h 1 (by decide)
theorem AtAt.c2 {W : World} {b o : Nat} {d : Att} (h : AtAt W b o d) : W.cell? ⟨b, o + 2, none⟩ = some (.int .i64 d.ty) := h 2 (by decide)
theorem AtAt.c3 {W : World} {b o : Nat} {d : Att} (h : AtAt W b o d) : W.cell? ⟨b, o + 3, none⟩ = some (.bool d.many) := h 3 (by decide)
theorem AtAt.c4 {W : World} {b o : Nat} {d : Att} (h : AtAt W b o d) : W.cell? ⟨b, o + 4, none⟩ = some (.int .i64 d.un) := h 4 (by decide)
theorem AtAt.c5 {W : World} {b o : Nat} {d : Att} (h : AtAt W b o d) : W.cell? ⟨b, o + 5, none⟩ = some (.bool d.part) := h 5 (by decide)
theorem AtAt.c6 {W : World} {b o : Nat} {d : Att} (h : AtAt W b o d) : W.cell? ⟨b, o + 6, none⟩ = some (.bool d.ix) := h 6 (by decide)
theorem AtAt.next {W W' : World} {B b o : Nat} {d : Att} (h : AtAt W b o d) (hb : Below B W W') (hB : b < B) : AtAt W' b o d := fun i hi => (hb.cell (p := ⟨b, o + i, none⟩) hB).trans (h i hi)
/-- a slice that reads as these attributes, in blocks below B -/
def SlA (W : World) (B : Nat) (A : Option Addr) (l : List Att) : Prop :=
  l ≠ [] → ∃ b o, A = some ⟨b, o, none⟩ ∧ b < B ∧ ∀ (j : Nat) (v : Att), l[j]? = some v → AtAt W b (o + j * 7) v
theorem SlA.next {W W' : World} {B : Nat} {A : Option Addr} {l : List Att} (h : SlA W B A l) {B' : Nat} (hb : Below B' W W') (hB : B ≤ B') : SlA W' B A l := fun hl => by
  obtain ⟨b, o, e, hlt, hc⟩ := h hl
  exact ⟨b, o, e, hlt, fun j p hp => (hc j p hp).next hb (by omega)⟩
theorem SlA.more {W : World} {B B' : Nat} {A : Option Addr} {l : List Att} (h : SlA W B A l) (hB : B ≤ B') : SlA W B' A l := fun hl => by
  obtain ⟨b, o, e, hlt, hc⟩ := h hl
  exact ⟨b, o, e, by omega, hc⟩
theorem SlA.at_ {W : World} {B : Nat} {A : Option Addr} {l : List Att} (h : SlA W B A l) {j : Nat} (hj : j < l.length) : ∃ b o, A = some ⟨b, o, none⟩ ∧ b < B ∧ AtAt W b (o + j * 7) l[j] := by
  obtain ⟨b, o, e, hlt, hc⟩ := h (by intro e; rw [e] at hj; simp at hj)
  exact ⟨b, o, e, hlt, hc j _ (List.getElem?_eq_getElem hj)⟩

theorem results_cell_one {fn : Func} {p : Tmp} {ty : TypeId} (h : fn.results = #[.cell p ty]) (tmps : Array Value) (P : Program) (w : World) :
    (results fn tmps).run P w = ((asAddr (tmps.getD p undef)).run P w).andThen fun a w₁ => (loadVar ty a).run P w₁ := by
  simp only [results, h]
  simp [Sem.run_bind]
set_option maxHeartbeats 400000 in
/-- CONTRACT: staysOf. -/
theorem stays_any (a : Att) (w : World) : Calls Try.prog 18 #[.agg #[.int .i64 a.id, .string a.nm, .int .i64 a.ty, .bool a.many, .int .i64 a.un, .bool a.part, .bool a.ix]] w fun e w' =>
    e = .returned (stayA a) ∧ Below w.heap.size w w' := by
  go_enter Try.func18, Try.ntmps18
  go_wp2
  refine bodyPost_ret (v := stayA a) ?_ rfl ⟨rfl, ?_⟩
  · rw [results_cell_one rfl]
    unfold stayA
    go_simp
  · exact (((Below.refl _ _).alloc (Nat.le_refl _) _).alloc (by simp) _)
end Go.Proofs.Ytlmihlepaoifiaa

/-
  CONTRACTS: the document's ByName and ByID.
-/
namespace Go.Proofs.Ytlmihlepaoifiaa
open Go.RowKit

def zA : Att := ⟨0, ⟨#[]⟩, 0, false, 0, false, false⟩
def attV (a : Att) : Value := .agg #[.int .i64 a.id, .string a.nm, .int .i64 a.ty, .bool a.many, .int .i64 a.un, .bool a.part, .bool a.ix]
/-- what was found, and whether -/
def fndV (o : Option Att) : Value := .tuple #[attV (o.getD zA), .bool o.isSome]
def nmP (s : ByteArray) (a : Att) : Bool := decide (a.nm = s)
/-- an attribute in a box -/
def BxA (W : World) (b : Nat) (d : Att) : Prop := W.heap[b]? = some (.cells #[.int .i64 d.id, .string d.nm, .int .i64 d.ty, .bool d.many, .int .i64 d.un, .bool d.part, .bool d.ix] 39 (0, 0))
theorem BxA.cell {W : World} {b : Nat} {d : Att} (h : BxA W b d) (j : Nat) : W.cell? ⟨b, j, none⟩ = (#[Value.int .i64 d.id, .string d.nm, .int .i64 d.ty, .bool d.many, .int .i64 d.un, .bool d.part, .bool d.ix])[j]? := by unfold BxA at h; simp [World.cell?, h]
theorem BxA.fz {W : World} {b : Nat} {d : Att} (h : BxA W b d) (j : Nat) : W.frozen? ⟨b, j, none⟩ = false := by unfold BxA at h; simp [World.frozen?, h]
theorem BxA.next {W W' : World} {b B : Nat} {d : Att} (h : BxA W b d) (hb : Below B W W') (hB : b < B) : BxA W' b d := (hb.block b hB).trans h
theorem bxA_new (W : World) (d : Att) : BxA (W.alloc (.cells #[.int .i64 d.id, .string d.nm, .int .i64 d.ty, .bool d.many, .int .i64 d.un, .bool d.part, .bool d.ix] 39)) W.heap.size d := heap_alloc_new W _
theorem BxA.set7 {W : World} {b : Nat} {d : Att} (h : BxA W b d) (q : Att) :
    BxA (((((((W.setCell ⟨b, 0, none⟩ (.int .i64 q.id)).setCell ⟨b, 1, none⟩ (.string q.nm)).setCell ⟨b, 2, none⟩ (.int .i64 q.ty)).setCell ⟨b, 3, none⟩ (.bool q.many)).setCell ⟨b, 4, none⟩ (.int .i64 q.un)).setCell ⟨b, 5, none⟩ (.bool q.part)).setCell ⟨b, 6, none⟩ (.bool q.ix)) b q :=
  (heap_setCell_same _ _ _ _ _ _ (heap_setCell_same _ _ _ _ _ _ (heap_setCell_same _ _ _ _ _ _ (heap_setCell_same _ _ _ _ _ _ (heap_setCell_same _ _ _ _ _ _ (heap_setCell_same _ _ _ _ _ _ (heap_setCell_same _ _ _ _ _ _ h))))))).trans (by simp)
theorem below_set7 {W : World} {B b : Nat} (hb : B ≤ b) (u0 u1 u2 u3 u4 u5 u6 : Value) :
    Below B W (((((((W.setCell ⟨b, 0, none⟩ u0).setCell ⟨b, 1, none⟩ u1).setCell ⟨b, 2, none⟩ u2).setCell ⟨b, 3, none⟩ u3).setCell ⟨b, 4, none⟩ u4).setCell ⟨b, 5, none⟩ u5).setCell ⟨b, 6, none⟩ u6) :=
  ((((((((Below.refl B W).setCell (p := ⟨b, 0, none⟩) hb _).setCell (p := ⟨b, 1, none⟩) hb _).setCell (p := ⟨b, 2, none⟩) hb _).setCell (p := ⟨b, 3, none⟩) hb _).setCell (p := ⟨b, 4, none⟩) hb _).setCell (p := ⟨b, 5, none⟩) hb _).setCell (p := ⟨b, 6, none⟩) hb _)
theorem find_step {l : List Att} {p : Att → Bool} {j : Nat} (h : j < l.length) : (l.drop j).find? p = if p l[j] then some l[j] else (l.drop (j + 1)).find? p := by
  rw [List.drop_eq_getElem_cons h, List.find?_cons]
  cases p l[j] <;> rfl

end Go.Proofs.Ytlmihlepaoifiaa

/-
  CONTRACTS: numberOf, isTrue.
-/
namespace Go.Proofs.Ytlmihlepaoifiaa
open Go.RowKit

def numA (k n most : Int) : Int := if k = 1 ∧ 1 ≤ n ∧ n ≤ most then n else 0
def trueA (k n : Int) : Bool := decide (k = 2) && decide (n = 1)
set_option maxHeartbeats 1000000 in
theorem isTrue_any (k n : Int) (s : ByteArray) (w : World) : Calls Try.prog 58 #[.agg #[.int .i64 k, .int .i64 n, .string s]] w fun e w' => e = .returned (.bool (trueA k n)) ∧ Below w.heap.size w w' := by
  by_cases h1 : k = 2
  · have q1 : (k == 2) = true := by rw [h1]; rfl
    by_cases h2 : n = 1
    · have q2 : (n == 1) = true := by rw [h2]; rfl
      have HE : Hid (trueA k n = true) := by show _ = _; simp [trueA, h1, h2]
      clear h1 h2
      go_enter Try.func58, Try.ntmps58
      go_wp2
      go_ret
      exact ⟨by rw [HE.out]; rfl, (Below.refl _ _).alloc (Nat.le_refl _) _⟩
    · have q2 : (n == 1) = false := beq_eq_false_iff_ne.2 h2
      have HE : Hid (trueA k n = false) := by show _ = _; simp [trueA, h2]
      clear h1 h2
      go_enter Try.func58, Try.ntmps58
      go_wp2
      go_ret
      exact ⟨by rw [HE.out]; rfl, (Below.refl _ _).alloc (Nat.le_refl _) _⟩
  · have q1 : (k == 2) = false := beq_eq_false_iff_ne.2 h1
    have HE : Hid (trueA k n = false) := by show _ = _; simp [trueA, h1]
    clear h1
    go_enter Try.func58, Try.ntmps58
    go_wp2
    go_ret
    exact ⟨by rw [HE.out]; rfl, (Below.refl _ _).alloc (Nat.le_refl _) _⟩
set_option maxHeartbeats 1000000 in
theorem numberOf_any (k n most : Int) (s : ByteArray) (w : World) : Calls Try.prog 57 #[.agg #[.int .i64 k, .int .i64 n, .string s], .int .i64 most] w fun e w' => e = .returned (.int .i64 (numA k n most)) ∧ Below w.heap.size w w' := by
  by_cases h1 : k = 1
  · have q1 : (k != 1) = false := by rw [h1]; rfl
    by_cases h2 : n < 1
    · have q2 : decide (n < 1) = true := decide_eq_true h2
      have HE : Hid (numA k n most = 0) := by show _ = _; unfold numA; rw [if_neg]; omega
      clear h1 h2
      go_enter Try.func57, Try.ntmps57
      go_wp2
      go_ret
      exact ⟨by rw [HE.out]; rfl, (Below.refl _ _).alloc (Nat.le_refl _) _⟩
    · have q2 : decide (n < 1) = false := decide_eq_false h2
      by_cases h3 : most < n
      · have q3 : decide (most < n) = true := decide_eq_true h3
        have HE : Hid (numA k n most = 0) := by show _ = _; unfold numA; rw [if_neg]; omega
        clear h1 h2 h3
        go_enter Try.func57, Try.ntmps57
        go_wp2
        go_ret
        exact ⟨by rw [HE.out]; rfl, (Below.refl _ _).alloc (Nat.le_refl _) _⟩
      · have q3 : decide (most < n) = false := decide_eq_false h3
        have HE : Hid (numA k n most = n) := by show _ = _; unfold numA; rw [if_pos]; omega
        clear h1 h2 h3
        go_enter Try.func57, Try.ntmps57
        go_wp2
        go_ret
        exact ⟨by rw [HE.out]; rfl, (Below.refl _ _).alloc (Nat.le_refl _) _⟩
  · have q1 : (k != 1) = true := bne_iff_ne.2 h1
    have HE : Hid (numA k n most = 0) := by show _ = _; unfold numA; rw [if_neg]; omega
    clear h1
    go_enter Try.func57, Try.ntmps57
    go_wp2
    go_ret
    exact ⟨by rw [HE.out]; rfl, (Below.refl _ _).alloc (Nat.le_refl _) _⟩
end Go.Proofs.Ytlmihlepaoifiaa

/-
  MADE: what an entity's facts make, gathered fact by fact; stores into an attribute's box.
-/
namespace Go.Proofs.Ytlmihlepaoifiaa
open Go.RowKit

/-- what was gathered: the attribute, and how often its name and its type were told -/
structure MdS where
  at' : Att
  nn : Nat
  tn : Nat
def stepM (q : MdS) (f : FactP) : MdS :=
  if f.a = 1 then ⟨if f.k = 7 then { q.at' with nm := f.s } else q.at', q.nn + 1, q.tn⟩
  else if f.a = 2 then ⟨{ q.at' with ty := numA f.k f.m 7 }, q.nn, q.tn + 1⟩
  else if f.a = 3 then { q with at' := { q.at' with many := q.at'.many || trueA f.k f.m } }
  else if f.a = 4 then { q with at' := { q.at' with un := max q.at'.un (numA f.k f.m 2) } }
  else if f.a = 5 then { q with at' := { q.at' with part := q.at'.part || trueA f.k f.m } }
  else if f.a = 6 then { q with at' := { q.at' with ix := q.at'.ix || trueA f.k f.m } }
  else q
def iniM (id : Int) : MdS := ⟨{ zA with id := id }, 0, 0⟩
def foldM (id : Int) (l : List FactP) : MdS := l.foldl stepM (iniM id)
def okM (q : MdS) : Bool := !(decide (q.at'.id < 10) || decide (q.nn ≠ 1) || decide (q.tn ≠ 1) || decide (q.at'.nm = ⟨#[]⟩) || decide (q.at'.ty = 0))
def madeL (q : MdS) : Option Att := if okM q then some q.at' else none
theorem foldM_at (id : Int) (fs : List FactP) {j : Nat} {f : FactP} (h : fs[j]? = some f) : foldM id (fs.take (j + 1)) = stepM (foldM id (fs.take j)) f := by
  unfold foldM
  rw [List.take_add_one, h, Option.toList_some, List.foldl_append]
  rfl
theorem BxA.st1 {W : World} {b : Nat} {d : Att} (h : BxA W b d) (u : ByteArray) : BxA (W.setCell ⟨b, 1, none⟩ (.string u)) b { d with nm := u } := (heap_setCell_same _ _ _ _ _ _ h).trans (by simp)
theorem BxA.st2 {W : World} {b : Nat} {d : Att} (h : BxA W b d) (u : Int) : BxA (W.setCell ⟨b, 2, none⟩ (.int .i64 u)) b { d with ty := u } := (heap_setCell_same _ _ _ _ _ _ h).trans (by simp)
theorem BxA.st3 {W : World} {b : Nat} {d : Att} (h : BxA W b d) (u : Bool) : BxA (W.setCell ⟨b, 3, none⟩ (.bool u)) b { d with many := u } := (heap_setCell_same _ _ _ _ _ _ h).trans (by simp)
theorem BxA.st4 {W : World} {b : Nat} {d : Att} (h : BxA W b d) (u : Int) : BxA (W.setCell ⟨b, 4, none⟩ (.int .i64 u)) b { d with un := u } := (heap_setCell_same _ _ _ _ _ _ h).trans (by simp)
theorem BxA.st5 {W : World} {b : Nat} {d : Att} (h : BxA W b d) (u : Bool) : BxA (W.setCell ⟨b, 5, none⟩ (.bool u)) b { d with part := u } := (heap_setCell_same _ _ _ _ _ _ h).trans (by simp)
theorem BxA.st6 {W : World} {b : Nat} {d : Att} (h : BxA W b d) (u : Bool) : BxA (W.setCell ⟨b, 6, none⟩ (.bool u)) b { d with ix := u } := (heap_setCell_same _ _ _ _ _ _ h).trans (by simp)
theorem below_st {W : World} {B b : Nat} (hb : B ≤ b) (j : Nat) (u : Value) : Below B W (W.setCell ⟨b, j, none⟩ u) := (Below.refl B W).setCell (p := ⟨b, j, none⟩) hb _
end Go.Proofs.Ytlmihlepaoifiaa

/-
  CONTRACTS of the document's own answer: values (what an entity's attribute has), yes.
-/
namespace Go.Proofs.Ytlmihlepaoifiaa
open Go.RowKit Go.Shelf

def isEA (e a : Int) (f : FactP) : Bool := decide (f.e = e) && decide (f.a = a)
def vlF (f : FactP) : Vl := (f.k, f.m, f.s)
/-- what an entity's attribute has -/
def valsL (e a : Int) (fs : List FactP) : List Vl := (fs.filter (isEA e a)).map vlF
def yesL (l : List Vl) : Bool := l.any fun v => trueA v.1 v.2.1
end Go.Proofs.Ytlmihlepaoifiaa
