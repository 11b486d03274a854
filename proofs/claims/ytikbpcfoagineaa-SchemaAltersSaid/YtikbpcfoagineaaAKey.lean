/-
  ATTRIBUTES (package schema): what of one stays, as a map's key; slices of attributes.
-/
import Derived.Test.YtikbpcfoagineaaProg
import Derived.Below
import Derived.WalkKit
import Derived.WalkSpells
import Derived.Maps.OwnSet
import Derived.Maps.Views
import Derived.ChangeKeys
import Derived.DeepKeys4
namespace Go.Proofs.Ytikbpcfoagineaa
open Go.RowKit Go.Maps

structure Att where
  id : Int
  nm : ByteArray
  ty : Int
  many : Bool
  un : Int
  part : Bool
  ix : Bool
structure AttOk (a : Att) : Prop where
  id : (Lit.int .i64 a.id).wf = true
  ty : (Lit.int .i64 a.ty).wf = true
  nm : a.nm.size ≤ maxLen
def litsA (a : Att) : List Lit := [.int .i64 a.id, .string a.nm.data.toList, .int .i64 a.ty]
def keyA (a : Att) : Lit := .string (keyBytes (litsA a))
def stayA (a : Att) : Value := .agg #[.int .i64 a.id, .string a.nm, .int .i64 a.ty]
def sameA (a b : Att) : Bool := decide (a.id = b.id) && decide (a.nm = b.nm) && decide (a.ty = b.ty)

theorem litsA_wf {a : Att} (h : AttOk a) : ∀ x ∈ litsA a, x.keyWf := by
  intro x hx
  simp [litsA] at hx
  rcases hx with rfl | rfl | rfl
  · exact h.id
  · show a.nm.data.toList.length ≤ maxLen
    rw [Array.length_toList]
    exact h.nm
  · exact h.ty
theorem keyA_same {a b : Att} (ha : AttOk a) (hb : AttOk b) : (keyA a).sameKey (keyA b) = sameA a b := by
  show (keyBytes (litsA a) == keyBytes (litsA b)) = sameA a b
  by_cases e : a.id = b.id ∧ a.nm = b.nm ∧ a.ty = b.ty
  · obtain ⟨e1, e2, e3⟩ := e
    have : litsA a = litsA b := by unfold litsA; rw [e1, e2, e3]
    rw [this]
    simp [sameA, e1, e2, e3]
  · have hne : keyBytes (litsA a) ≠ keyBytes (litsA b) := fun hk => by
      have := keyBytes_inj (l := litsA a) (l' := litsA b) ⟨rfl, trivial, rfl, trivial⟩ (litsA_wf ha) (litsA_wf hb) hk
      simp only [litsA, List.cons.injEq, Lit.int.injEq, Lit.string.injEq, true_and, and_true] at this
      exact e ⟨this.1, ByteArray.ext (Array.toList_inj.1 this.2.1), this.2.2⟩
    have h1 : (keyBytes (litsA a) == keyBytes (litsA b)) = false := beq_eq_false_iff_ne.2 hne
    rw [h1]
    by_cases e1 : a.id = b.id
    · by_cases e2 : a.nm = b.nm
      · have e3 : ¬ a.ty = b.ty := fun e3 => e ⟨e1, e2, e3⟩
        simp [sameA, e3]
      · simp [sameA, e2]
    · simp [sameA, e1]

theorem lawSt : Keyed Try.prog 72 := Keyed.of_law (deep_law_laid (by kernel_rfl) (m := 3) (by omega) (of_decide_eq_true (by kernel_rfl)) (by kernel_rfl) (by kernel_rfl))
theorem zeroSt (w : World) : (zeroValue 70).run Try.prog w = .ok (.agg #[]) w := by kernel_rfl
theorem sizeSt : Try.prog.cellsOf 72 = 3 := by kernel_rfl
theorem sizeI6 : Try.prog.cellsOf 2 = 1 := by kernel_rfl
theorem sizeIn : Try.prog.cellsOf 3 = 1 := by kernel_rfl
theorem sizeSg : Try.prog.cellsOf 9 = 1 := by kernel_rfl
theorem keyTypeSt : Try.prog.keyType 72 = true := by kernel_rfl
theorem keyOf_att {a : Att} (h : AttOk a) : keyOf Try.prog 72 (stayA a) = some (keyA a) := by
  have hi := h.id
  have hty := h.ty
  have hn := h.nm
  have k0 : ∀ d, Try.prog.keyLits (d + 1) 2 [.int .i64 a.id] = some [.int .i64 a.id] := fun d => by
    unfold Program.keyLits; rw [Try.underlying2]; simp [hi]
  have k1 : ∀ d, Try.prog.keyLits (d + 1) 9 [.string a.nm] = some [.string a.nm.data.toList] := fun d => by
    unfold Program.keyLits; rw [Try.underlying9]; simp [hn]
  have k2 : ∀ d, Try.prog.keyLits (d + 1) 3 [.int .i64 a.ty] = some [.int .i64 a.ty] := fun d => by
    unfold Program.keyLits; rw [Try.underlying3]; simp [hty]
  have kk : ∀ d, Try.prog.keyLits (d + 2) 72 [.int .i64 a.id, .string a.nm, .int .i64 a.ty] = some (litsA a) := fun d => by
    unfold Program.keyLits
    rw [Try.underlying72]
    simp [sizeSt, sizeI6, sizeIn, sizeSg, k0, k1, k2, litsA]
  obtain ⟨n, hn2⟩ : ∃ n, Try.prog.types.size + 1 = n + 2 := ⟨Try.prog.types.size - 1, by have : 1 < Try.prog.types.size := of_decide_eq_true (by kernel_rfl); omega⟩
  have hf : (stayA a).formed Try.prog 72 = true := by
    simp [Value.formed, Try.underlying72, sizeSt, stayA]
  unfold keyOf
  rw [Try.underlying72]
  simp only [keyTypeSt, hf, Bool.and_self, if_true]
  have hc : (stayA a).cells.toList = [.int .i64 a.id, .string a.nm, .int .i64 a.ty] := rfl
  rw [hc, hn2, kk]
  rfl

/-- the set of what stays -/
def setA {H : Type} (l : List Att) : DataW H := setOf (.agg []) (l.map keyA)
theorem setA_nil {H : Type} : setA (H := H) [] = .map [] := rfl
theorem setA_snoc {H : Type} (l : List Att) (x : Att) : setA (H := H) (l ++ [x]) = (setA l).put (keyA x) (.agg []) := by
  unfold setA
  rw [List.map_append, List.map_singleton, setOf_snoc]
theorem has_setA {H : Type} (l : List Att) (x : Att) (hl : ∀ a ∈ l, AttOk a) (hx : AttOk x) : Maps.has (setA (H := H) l) (keyA x) = l.any (fun a => sameA a x) := by
  unfold setA
  rw [has_setOf _ _ _ (fun y hy => by obtain ⟨_, _, rfl⟩ := List.mem_map.1 hy; trivial), List.any_map]
  induction l with
  | nil => rfl
  | cons a r ih =>
    rw [List.any_cons, List.any_cons, ih (fun y hy => hl y (by simp [hy]))]
    rw [show ((fun y : Lit => y.sameKey (keyA x)) ∘ keyA) a = sameA a x from keyA_same (hl a (by simp)) hx]
/-- 0 where each of l is among r, else 77 -/
def altB (l r : List Att) : Bool := l.all fun x => r.any fun a => sameA a x
def altN (l r : List Att) : Int := if altB l r then 0 else 77
theorem altN_self (l : List Att) : altN l l = 0 := by
  unfold altN
  rw [if_pos]
  unfold altB
  rw [List.all_eq_true]
  intro x hx
  rw [List.any_eq_true]
  exact ⟨x, hx, by simp [sameA]⟩

def cellsA (a : Att) : List Value := [.int .i64 a.id, .string a.nm, .int .i64 a.ty, .bool a.many, .int .i64 a.un, .bool a.part, .bool a.ix]
/-- one attribute's cells -/
def AtAt (W : World) (b o : Nat) (a : Att) : Prop := ∀ i, i < 7 → W.cell? ⟨b, o + i, none⟩ = (cellsA a)[i]?
theorem AtAt.c0 {W : World} {b o : Nat} {d : Att} (h : AtAt W b o d) : W.cell? ⟨b, o, none⟩ = some (.int .i64 d.id) := h 0 (by decide)
theorem AtAt.c1 {W : World} {b o : Nat} {d : Att} (h : AtAt W b o d) : W.cell? ⟨b, o + 1, none⟩ = some (.string d.nm) := h 1 (by decide)
theorem AtAt.c2 {W : World} {b o : Nat} {d : Att} (h : AtAt W b o d) : W.cell? ⟨b, o + 2, none⟩ = some (.int .i64 d.ty) := h 2 (by decide)
theorem AtAt.c3 {W : World} {b o : Nat} {d : Att} (h : AtAt W b o d) : W.cell? ⟨b, o + 3, none⟩ = some (.bool d.many) := h 3 (by decide)
theorem AtAt.c4 {W : World} {b o : Nat} {d : Att} (h : AtAt W b o d) : W.cell? ⟨b, o + 4, none⟩ = some (.int .i64 d.un) := h 4 (by decide)
theorem AtAt.c5 {W : World} {b o : Nat} {d : Att} (h : AtAt W b o d) : W.cell? ⟨b, o + 5, none⟩ = some (.bool d.part) := h 5 (by decide)
theorem AtAt.c6 {W : World} {b o : Nat} {d : Att} (h : AtAt W b o d) : W.cell? ⟨b, o + 6, none⟩ = some (.bool d.ix) := h 6 (by decide)
theorem AtAt.next {W W' : World} {B b o : Nat} {d : Att} (h : AtAt W b o d) (hb : Below B W W') (hB : b < B) : AtAt W' b o d := fun i hi => (hb.cell (p := ⟨b, o + i, none⟩) hB).trans (h i hi)
/-- a slice that reads as these attributes, in blocks below B -/
def SlA (W : World) (B : Nat) (A : Option Addr) (l : List Att) : Prop :=
  l ≠ [] → ∃ b o, A = some ⟨b, o, none⟩ ∧ b < B ∧ ∀ (j : Nat) (v : Att), l[j]? = some v → AtAt W b (o + j * 7) v
theorem SlA.next {W W' : World} {B : Nat} {A : Option Addr} {l : List Att} (h : SlA W B A l) {B' : Nat} (hb : Below B' W W') (hB : B ≤ B') : SlA W' B A l := fun hl => by
  obtain ⟨b, o, e, hlt, hc⟩ := h hl
  exact ⟨b, o, e, hlt, fun j p hp => (hc j p hp).next hb (by omega)⟩
theorem SlA.more {W : World} {B B' : Nat} {A : Option Addr} {l : List Att} (h : SlA W B A l) (hB : B ≤ B') : SlA W B' A l := fun hl => by
  obtain ⟨b, o, e, hlt, hc⟩ := h hl
  exact ⟨b, o, e, by omega, hc⟩
theorem SlA.at_ {W : World} {B : Nat} {A : Option Addr} {l : List Att} (h : SlA W B A l) {j : Nat} (hj : j < l.length) : ∃ b o, A = some ⟨b, o, none⟩ ∧ b < B ∧ AtAt W b (o + j * 7) l[j] := by
  obtain ⟨b, o, e, hlt, hc⟩ := h (by intro e; rw [e] at hj; simp at hj)
  exact ⟨b, o, e, hlt, hc j _ (List.getElem?_eq_getElem hj)⟩

theorem results_cell_one {fn : Func} {p : Tmp} {ty : TypeId} (h : fn.results = #[.cell p ty]) (tmps : Array Value) (P : Program) (w : World) :
    (results fn tmps).run P w = ((asAddr (tmps.getD p undef)).run P w).andThen fun a w₁ => (loadVar ty a).run P w₁ := by
  simp only [results, h]
  simp [Sem.run_bind]
set_option maxHeartbeats 400000 in
/-- CONTRACT: staysOf. -/
theorem stays_any (a : Att) (w : World) : Calls Try.prog 35 #[.agg #[.int .i64 a.id, .string a.nm, .int .i64 a.ty, .bool a.many, .int .i64 a.un, .bool a.part, .bool a.ix]] w fun e w' =>
    e = .returned (stayA a) ∧ Below w.heap.size w w' := by
  go_enter Try.func35, Try.ntmps35
  go_wp2
  refine bodyPost_ret (v := stayA a) ?_ rfl ⟨rfl, ?_⟩
  · rw [results_cell_one rfl]
    unfold stayA
    go_simp
  · exact (((Below.refl _ _).alloc (Nat.le_refl _) _).alloc (by simp) _)
end Go.Proofs.Ytikbpcfoagineaa
