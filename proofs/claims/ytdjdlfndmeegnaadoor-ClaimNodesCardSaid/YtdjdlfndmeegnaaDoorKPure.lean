/-
  PLAIN FACTS: entities, terms and forms (package claim); nodes; which may be; what == says of them.
-/
import Derived.Test.YtdjdlfndmeegnaaDoorOKey
import Derived.Test.YtdjdlfndmeegnaaDoorTNP
import Derived.Laws.StructEq
namespace Go.Proofs.YtdjdlfndmeegnaaDoor
open Go.RowKit

structure En where
  k : Int
  n : Int
  nm : ByteArray
  vk : Int
  vn : Int
  vs : ByteArray
structure Tm where
  ent : Bool
  vk : Int
  vn : Int
  vs : ByteArray
  e : En
structure Fm where
  op : Int
  e : En
  a : ByteArray
  v : Tm
  old : Tm
  fr : Int
  til : Int
def eB : ByteArray := ⟨#[]⟩
def zE : En := ⟨0, 0, eB, 0, 0, eB⟩
def zT : Tm := ⟨false, 0, 0, eB, zE⟩
def sameV (k n : Int) (s : ByteArray) (k' n' : Int) (s' : ByteArray) : Bool := (k == k') && ((n == n') && (s.toList == s'.toList))
def sameE (x y : En) : Bool := (x.k == y.k) && ((x.n == y.n) && ((x.nm.toList == y.nm.toList) && sameV x.vk x.vn x.vs y.vk y.vn y.vs))
def sameT (x y : Tm) : Bool := (x.ent == y.ent) && (sameV x.vk x.vn x.vs y.vk y.vn y.vs && sameE x.e y.e)
def sameF (x y : Fm) : Bool := (x.op == y.op) && (sameE x.e y.e && ((x.a.toList == y.a.toList) && (sameT x.v y.v && (sameT x.old y.old && ((x.fr == y.fr) && (x.til == y.til))))))

def entB (x : En) : Bool :=
  if x.k = 1 then mayB 5 x.n eB && sameE x ⟨x.k, x.n, eB, 0, 0, eB⟩
  else if x.k = 2 then namP x.nm.data.toList && sameE x ⟨x.k, 0, x.nm, 0, 0, eB⟩
  else if x.k = 3 then mayB 7 0 x.nm && (mayB x.vk x.vn x.vs && (x.n == 0))
  else false
def termB (t : Tm) : Bool :=
  if t.ent then entB t.e && sameV t.vk t.vn t.vs 0 0 eB
  else mayB t.vk t.vn t.vs && (!(t.vk == 5) && sameE t.e zE)
def formB (f : Fm) : Bool :=
  if f.til ≤ f.fr then false
  else if entB f.e = false then false
  else if f.op = 1 ∨ f.op = 2 then mayB 7 0 f.a && (termB f.v && sameT f.old zT)
  else if f.op = 3 then sameF f ⟨f.op, f.e, eB, zT, zT, f.fr, f.til⟩
  else if f.op = 4 then mayB 7 0 f.a && (termB f.v && termB f.old)
  else false

theorem emp_list (s : ByteArray) : s.toList = [] ↔ s.size = 0 := ⟨size_of_emp, fun h => by have := emp_yes h; exact this⟩
theorem sameV_z {k n : Int} {s : ByteArray} : sameV k n s 0 0 eB = (decide (k = 0) && (decide (n = 0) && s.toList.isEmpty)) := by
  unfold sameV
  have : eB.toList = [] := by rw [ByteArray.toList_eq]; rfl
  rw [this]
  cases s.toList with
  | nil => simp; rfl
  | cons a r => simp
theorem same_refl (s : ByteArray) : (s.toList == s.toList) = true := beq_self_eq_true _
theorem sameV_refl (k n : Int) (s : ByteArray) : sameV k n s k n s = true := by simp [sameV]
theorem sameE_refl (x : En) : sameE x x = true := by simp [sameE, sameV_refl]
theorem sameT_refl (x : Tm) : sameT x x = true := by simp [sameT, sameV_refl, sameE_refl]

/-- nodes -/
inductive Nd where
  | mk (k vk vn : Int) (vs s : ByteArray) (kids : List Nd) (ln co : Int)
def Nd.k : Nd → Int | .mk k _ _ _ _ _ _ _ => k
def Nd.vk : Nd → Int | .mk _ k _ _ _ _ _ _ => k
def Nd.vn : Nd → Int | .mk _ _ k _ _ _ _ _ => k
def Nd.vs : Nd → ByteArray | .mk _ _ _ k _ _ _ _ => k
def Nd.s : Nd → ByteArray | .mk _ _ _ _ k _ _ _ => k
def Nd.kids : Nd → List Nd | .mk _ _ _ _ _ k _ _ => k
def Nd.ln : Nd → Int | .mk _ _ _ _ _ _ k _ => k
def Nd.co : Nd → Int | .mk _ _ _ _ _ _ _ k => k
def valN (k n : Int) (s : ByteArray) : Nd := .mk 1 k n s eB [] 0 0
def namN (s : ByteArray) : Nd := .mk 2 0 0 eB s [] 0 0
def prN (a b : Nd) : Nd := .mk 4 0 0 eB eB [a, b] 0 0
def zN : Nd := .mk 0 0 0 eB eB [] 0 0
def entN (x : En) : Nd := if x.k = 1 then valN 5 x.n eB else if x.k = 2 then namN x.nm else prN (valN 7 0 x.nm) (valN x.vk x.vn x.vs)
def trmN (t : Tm) : Nd := if t.ent then entN t.e else valN t.vk t.vn t.vs
def opS (k : Int) : ByteArray := if k = 1 then ⟨#[97, 100, 100]⟩ else if k = 2 then ⟨#[99, 117, 116]⟩ else if k = 3 then ⟨#[103, 111, 110, 101]⟩ else if k = 4 then ⟨#[115, 119, 97, 112]⟩ else eB
def minT : Int := -9223372036854775808
def maxT : Int := 9223372036854775807
def spnL (f : Fm) : List Nd := if f.fr = minT ∧ f.til = maxT then [] else [prN (valN 6 f.fr eB) (valN 6 f.til eB)]
def kidL (f : Fm) : List Nd :=
  namN (opS f.op) :: entN f.e :: ((if f.op = 3 then [] else [valN 7 0 f.a]) ++ ((if f.op = 4 then [trmN f.old] else []) ++ ((if f.op = 3 then [] else [trmN f.v]) ++ spnL f)))
def nodF (f : Fm) : Nd := .mk 3 0 0 eB eB (kidL f) 0 0

/-- a node's own cells, its kids' slice aside -/
def cellsN (x : Nd) (v : Value) : List Value := [.int .i64 x.k, .int .i64 x.vk, .int .i64 x.vn, .string x.vs, .string x.s, v, .int .i64 x.ln, .int .i64 x.co]
/-- a slice that reads as these nodes, so deep at most, in blocks of a kind -/
def SlN : Nat → World → (Nat → Prop) → Option Addr → List Nd → Prop
  | 0, _, _, _, l => l = []
  | d + 1, W, B, A, l => l.length ≤ 4611686018427387904 ∧ (l ≠ [] → ∃ b o, A = some ⟨b, o, none⟩ ∧ B b ∧ ∀ (j : Nat) (x : Nd), l[j]? = some x →
      ∃ K c, (∀ i, i < 8 → W.cell? ⟨b, o + j * 8 + i, none⟩ = (cellsN x (.slice K x.kids.length c))[i]?) ∧ SlN d W B K x.kids)
theorem SlN.nil (d : Nat) (W : World) (B : Nat → Prop) (A : Option Addr) : SlN d W B A [] := by
  cases d with
  | zero => rfl
  | succ d => exact ⟨by simp, fun h => absurd rfl h⟩
theorem SlN.len {d : Nat} {W : World} {B : Nat → Prop} {A : Option Addr} {l : List Nd} (h : SlN d W B A l) : l.length ≤ 4611686018427387904 := by
  cases d with
  | zero => rw [show l = [] from h]; simp
  | succ d => exact h.1
theorem SlN.keep {d : Nat} {W W' : World} {B : Nat → Prop} {A : Option Addr} {l : List Nd} (h : SlN d W B A l) (hk : ∀ b, B b → W'.heap[b]? = W.heap[b]?) : SlN d W' B A l := by
  induction d generalizing A l with
  | zero => exact h
  | succ d ih =>
    refine ⟨h.1, fun hl => ?_⟩
    obtain ⟨b, o, e, hlt, hc⟩ := h.2 hl
    refine ⟨b, o, e, hlt, fun j x hx => ?_⟩
    obtain ⟨K, c, h1, h2⟩ := hc j x hx
    exact ⟨K, c, fun i hi => Eq.trans (by unfold World.cell?; rw [hk b hlt]) (h1 i hi), ih h2⟩
theorem SlN.mono {d : Nat} {W : World} {B B' : Nat → Prop} {A : Option Addr} {l : List Nd} (h : SlN d W B A l) (hB : ∀ b, B b → B' b) : SlN d W B' A l := by
  induction d generalizing A l with
  | zero => exact h
  | succ d ih =>
    refine ⟨h.1, fun hl => ?_⟩
    obtain ⟨b, o, e, hlt, hc⟩ := h.2 hl
    refine ⟨b, o, e, hB b hlt, fun j x hx => ?_⟩
    obtain ⟨K, c, h1, h2⟩ := hc j x hx
    exact ⟨K, c, h1, ih h2⟩
theorem SlN.next {d : Nat} {W W' : World} {B : Nat → Prop} {A : Option Addr} {l : List Nd} (h : SlN d W B A l) {B' : Nat} (hb : Below B' W W') (hB : ∀ b, B b → b < B') : SlN d W' B A l :=
  h.keep fun b hb' => hb.block b (hB b hb')
theorem SlN.drewN {d : Nat} {W : World} {B : Nat → Prop} {A : Option Addr} {l : List Nd} (h : SlN d W B A l) (m : Nat) : SlN d (W.drewN m) B A l := h.keep fun _ _ => rfl
theorem SlN.drew {d : Nat} {W : World} {B : Nat → Prop} {A : Option Addr} {l : List Nd} (h : SlN d W B A l) : SlN d W.drew B A l := h.keep fun _ _ => rfl
theorem SlN.deeper {d : Nat} {W : World} {B : Nat → Prop} {A : Option Addr} {l : List Nd} (h : SlN d W B A l) : SlN (d + 1) W B A l := by
  induction d generalizing A l with
  | zero => rw [show l = [] from h]; exact SlN.nil _ _ _ _
  | succ d ih =>
    refine ⟨h.1, fun hl => ?_⟩
    obtain ⟨b, o, e, hlt, hc⟩ := h.2 hl
    refine ⟨b, o, e, hlt, fun j x hx => ?_⟩
    obtain ⟨K, c, h1, h2⟩ := hc j x hx
    exact ⟨K, c, h1, ih h2⟩
theorem SlN.at_ {d : Nat} {W : World} {B : Nat → Prop} {A : Option Addr} {l : List Nd} (h : SlN (d + 1) W B A l) {j : Nat} (hj : j < l.length) :
    ∃ b o K c, A = some ⟨b, o, none⟩ ∧ B b ∧ (∀ i, i < 8 → W.cell? ⟨b, o + j * 8 + i, none⟩ = (cellsN l[j] (.slice K l[j].kids.length c))[i]?) ∧ SlN d W B K l[j].kids := by
  obtain ⟨b, o, e, hlt, hc⟩ := h.2 (by intro e; rw [e] at hj; simp at hj)
  obtain ⟨K, c, h1, h2⟩ := hc j _ (List.getElem?_eq_getElem hj)
  exact ⟨b, o, K, c, e, hlt, h1, h2⟩
end Go.Proofs.YtdjdlfndmeegnaaDoor
