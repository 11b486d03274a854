/-
  NODES: trees of them, how a slice reads as nodes; rows of nodes that are owned.
-/
import Derived.Deep.Draws
import Derived.BigQuiet
import Derived.Laws.StructEq
import Derived.Maps.AppendAt
import Derived.OwnWalk
import Derived.Laws.OwnMore
import Derived.WalkSmall
import Derived.Test.YthbighnkohjfnaaGreatDoorJTCur
namespace Go.Proofs.YthbighnkohjfnaaGreatDoor
open Go.RowKit

/-- nodes -/
inductive Nd where
  | mk (k vk vn : Int) (vs s : ByteArray) (kids : List Nd) (ln co : Int)
def Nd.k : Nd → Int | .mk k _ _ _ _ _ _ _ => k
def Nd.vk : Nd → Int | .mk _ k _ _ _ _ _ _ => k
def Nd.vn : Nd → Int | .mk _ _ k _ _ _ _ _ => k
def Nd.vs : Nd → ByteArray | .mk _ _ _ k _ _ _ _ => k
def Nd.s : Nd → ByteArray | .mk _ _ _ _ k _ _ _ => k
def Nd.kids : Nd → List Nd | .mk _ _ _ _ _ k _ _ => k
def Nd.ln : Nd → Int | .mk _ _ _ _ _ _ k _ => k
def Nd.co : Nd → Int | .mk _ _ _ _ _ _ _ k => k
/-- a node's own cells, its kids' slice aside -/
def cellsN (x : Nd) (v : Value) : List Value := [.int .i64 x.k, .int .i64 x.vk, .int .i64 x.vn, .string x.vs, .string x.s, v, .int .i64 x.ln, .int .i64 x.co]
/-- a slice that reads as these nodes, so deep at most, in blocks of a kind -/
def SlN : Nat → World → (Nat → Prop) → Option Addr → List Nd → Prop
  | 0, _, _, _, l => l = []
  | d + 1, W, B, A, l => l.length ≤ 4611686018427387904 ∧ (l ≠ [] → ∃ b o, A = some ⟨b, o, none⟩ ∧ B b ∧ ∀ (j : Nat) (x : Nd), l[j]? = some x →
      ∃ K c, (∀ i, i < 8 → W.cell? ⟨b, o + j * 8 + i, none⟩ = (cellsN x (.slice K x.kids.length c))[i]?) ∧ SlN d W B K x.kids)
theorem SlN.nil (d : Nat) (W : World) (B : Nat → Prop) (A : Option Addr) : SlN d W B A [] := by
  cases d with
  | zero => rfl
  | succ d => exact ⟨by simp, fun h => absurd rfl h⟩
theorem SlN.len {d : Nat} {W : World} {B : Nat → Prop} {A : Option Addr} {l : List Nd} (h : SlN d W B A l) : l.length ≤ 4611686018427387904 := by
  cases d with
  | zero => rw [show l = [] from h]; simp
  | succ d => exact h.1
theorem SlN.keep {d : Nat} {W W' : World} {B : Nat → Prop} {A : Option Addr} {l : List Nd} (h : SlN d W B A l) (hk : ∀ b, B b → W'.heap[b]? = W.heap[b]?) : SlN d W' B A l := by
  induction d generalizing A l with
  | zero => exact h
  | succ d ih =>
    refine ⟨h.1, fun hl => ?_⟩
    obtain ⟨b, o, e, hlt, hc⟩ := h.2 hl
    refine ⟨b, o, e, hlt, fun j x hx => ?_⟩
    obtain ⟨K, c, h1, h2⟩ := hc j x hx
    exact ⟨K, c, fun i hi => Eq.trans (by unfold World.cell?; rw [hk b hlt]) (h1 i hi), ih h2⟩
theorem SlN.mono {d : Nat} {W : World} {B B' : Nat → Prop} {A : Option Addr} {l : List Nd} (h : SlN d W B A l) (hB : ∀ b, B b → B' b) : SlN d W B' A l := by
  induction d generalizing A l with
  | zero => exact h
  | succ d ih =>
    refine ⟨h.1, fun hl => ?_⟩
    obtain ⟨b, o, e, hlt, hc⟩ := h.2 hl
    refine ⟨b, o, e, hB b hlt, fun j x hx => ?_⟩
    obtain ⟨K, c, h1, h2⟩ := hc j x hx
    exact ⟨K, c, h1, ih h2⟩
theorem SlN.next {d : Nat} {W W' : World} {B : Nat → Prop} {A : Option Addr} {l : List Nd} (h : SlN d W B A l) {B' : Nat} (hb : Below B' W W') (hB : ∀ b, B b → b < B') : SlN d W' B A l :=
  h.keep fun b hb' => hb.block b (hB b hb')
theorem SlN.drewN {d : Nat} {W : World} {B : Nat → Prop} {A : Option Addr} {l : List Nd} (h : SlN d W B A l) (m : Nat) : SlN d (W.drewN m) B A l := h.keep fun _ _ => rfl
theorem SlN.drew {d : Nat} {W : World} {B : Nat → Prop} {A : Option Addr} {l : List Nd} (h : SlN d W B A l) : SlN d W.drew B A l := h.keep fun _ _ => rfl
theorem SlN.deeper {d : Nat} {W : World} {B : Nat → Prop} {A : Option Addr} {l : List Nd} (h : SlN d W B A l) : SlN (d + 1) W B A l := by
  induction d generalizing A l with
  | zero => rw [show l = [] from h]; exact SlN.nil _ _ _ _
  | succ d ih =>
    refine ⟨h.1, fun hl => ?_⟩
    obtain ⟨b, o, e, hlt, hc⟩ := h.2 hl
    refine ⟨b, o, e, hlt, fun j x hx => ?_⟩
    obtain ⟨K, c, h1, h2⟩ := hc j x hx
    exact ⟨K, c, h1, ih h2⟩
theorem SlN.at_ {d : Nat} {W : World} {B : Nat → Prop} {A : Option Addr} {l : List Nd} (h : SlN (d + 1) W B A l) {j : Nat} (hj : j < l.length) :
    ∃ b o K c, A = some ⟨b, o, none⟩ ∧ B b ∧ (∀ i, i < 8 → W.cell? ⟨b, o + j * 8 + i, none⟩ = (cellsN l[j] (.slice K l[j].kids.length c))[i]?) ∧ SlN d W B K l[j].kids := by
  obtain ⟨b, o, e, hlt, hc⟩ := h.2 (by intro e; rw [e] at hj; simp at hj)
  obtain ⟨K, c, h1, h2⟩ := hc j _ (List.getElem?_eq_getElem hj)
  exact ⟨b, o, K, c, e, hlt, h1, h2⟩
def catN (l : List (Nd × Option Addr × Nat)) : List Value := l.flatMap fun p => cellsN p.1 (.slice p.2.1 p.1.kids.length p.2.2)
theorem catN_snoc (l : List (Nd × Option Addr × Nat)) (p : Nd × Option Addr × Nat) : catN (l ++ [p]) = catN l ++ cellsN p.1 (.slice p.2.1 p.1.kids.length p.2.2) := by
  unfold catN; rw [List.flatMap_append]; simp
theorem catN_len (l : List (Nd × Option Addr × Nat)) : (catN l).length = l.length * 8 := by
  induction l with
  | nil => rfl
  | cons a r ih => unfold catN at *; rw [List.flatMap_cons, List.length_append, ih]; simp [cellsN]; omega
theorem catN_at (l : List (Nd × Option Addr × Nat)) (j i : Nat) (hi : i < 8) : (catN l)[j * 8 + i]? = (l[j]?).bind fun p => (cellsN p.1 (.slice p.2.1 p.1.kids.length p.2.2))[i]? := by
  induction l generalizing j with
  | nil => simp [catN]
  | cons a r ih =>
    have hc : catN (a :: r) = cellsN a.1 (.slice a.2.1 a.1.kids.length a.2.2) ++ catN r := by unfold catN; rw [List.flatMap_cons]
    have h8 : (cellsN a.1 (.slice a.2.1 a.1.kids.length a.2.2)).length = 8 := rfl
    rw [hc]
    cases j with
    | zero => rw [List.getElem?_append_left (by omega), Nat.zero_mul, Nat.zero_add]; rfl
    | succ j =>
      rw [List.getElem?_append_right (by omega), h8, show (j + 1) * 8 + i - 8 = j * 8 + i from by omega, ih]
      rfl
theorem cellsN_one (x : Nd) (K : Option Addr) (n c : Nat) : ∀ u ∈ cellsN x (.slice K n c), u.oneCell' = true := by
  intro u hu
  simp [cellsN] at hu
  rcases hu with rfl | rfl | rfl | rfl | rfl | rfl | rfl | rfl <;> rfl
theorem litN (W : World) (x : Nd) (K : Option Addr) (n c : Nat) (j : Nat) (u : Value) (hu : (cellsN x (.slice K n c))[j]? = some u) :
    (W.alloc (.cells #[.int .i64 x.k, .int .i64 x.vk, .int .i64 x.vn, .string x.vs, .string x.s, .slice K n c, .int .i64 x.ln, .int .i64 x.co] 37)).cell? ((⟨W.heap.size, 0, none⟩ : Addr).add j) = some u := by
  have e : (⟨W.heap.size, 0, none⟩ : Addr).add j = ⟨W.heap.size, j, none⟩ := by unfold Addr.add; split <;> simp_all
  rw [e, World.cell?_alloc_new]
  simpa [cellsN] using hu
theorem infoN : (Tryz.prog.info? 37).map (fun i => (i.zero, i.size, i.bytes)) = some (some (.agg #[.int .i64 0, .int .i64 0, .int .i64 0, .string ⟨#[]⟩, .string ⟨#[]⟩, .slice none 0 0, .int .i64 0, .int .i64 0]), 8, 96) := by kernel_rfl
theorem SlN.deeperN {d : Nat} {W : World} {B : Nat → Prop} {A : Option Addr} {l : List Nd} (h : SlN d W B A l) : ∀ n, SlN (d + n) W B A l
  | 0 => h
  | n + 1 => (h.deeperN n).deeper
theorem SlN.upto {d d' : Nat} {W : World} {B : Nat → Prop} {A : Option Addr} {l : List Nd} (h : SlN d W B A l) (hd : d ≤ d') : SlN d' W B A l := by
  obtain ⟨n, rfl⟩ := Nat.exists_eq_add_of_le hd
  exact h.deeperN n

/-- a node, and where its kids lie -/
abbrev Ek := Nd × Option Addr × Nat
/-- rows that are owned, no two of them one block -/
structure Lv (lo : Nat) (W : World) (rs : List (Value × List Ek)) : Prop where
  own : ∀ (i : Nat) (r : Value × List Ek), rs[i]? = some r → W.ownsRow lo 37 8 r.1 r.2.length (catN r.2)
  apart : ∀ (i j : Nat) (r r' : Value × List Ek) (g : Nat), rs[i]? = some r → rs[j]? = some r' → r.1.ownBlock = some g → r'.1.ownBlock = some g → i = j
/-- blocks of nodes that are no owned row -/
def Fz (lo : Nat) (W : World) (rs : List (Value × List Ek)) (b : Nat) : Prop := lo ≤ b ∧ (∃ cs, W.heap[b]? = some (.cells cs 37 (0, 0))) ∧ ∀ r ∈ rs, r.1.ownBlock ≠ some b
/-- what is turned is no block of nodes -/
structure KeepNd (W W' : World) : Prop where
  size : W.heap.size ≤ W'.heap.size
  same : ∀ (b : Nat) (cs : Array Value), W.heap[b]? = some (.cells cs 37 (0, 0)) → W'.heap[b]? = W.heap[b]?
/-- and no reader -/
structure KeepN (W W' : World) : Prop extends KeepNd W W' where
  rdr : ∀ (b : Nat) (cs : Array Value), W.heap[b]? = some (.cells cs 41 (0, 0)) → W'.heap[b]? = W.heap[b]?
theorem KeepN.refl (W : World) : KeepN W W := ⟨⟨Nat.le_refl _, fun _ _ _ => rfl⟩, fun _ _ _ => rfl⟩
theorem KeepN.of_below {W W' : World} (h : Below W.heap.size W W') : KeepN W W' :=
  ⟨⟨h.size, fun b _ hb => h.block b (Array.getElem?_eq_some_iff.1 hb).1⟩, fun b _ hb => h.block b (Array.getElem?_eq_some_iff.1 hb).1⟩
theorem ownsRow_same {W W' : World} {lo n : Nat} {v : Value} {xs : List Value} (h : W.ownsRow lo 37 8 v n xs) (hk : ∀ g, v.ownBlock = some g → W'.heap[g]? = W.heap[g]?) : W'.ownsRow lo 37 8 v n xs := by
  refine ⟨h.1, ?_⟩
  rcases h.2 with hn | ⟨g, cap, cur, rfl, hb, hgg, rest⟩
  · exact .inl hn
  · exact .inr ⟨g, cap, cur, rfl, hb, (hk g rfl).trans hgg, rest⟩
theorem ownsRow_node {W : World} {lo n : Nat} {v : Value} {xs : List Value} (h : W.ownsRow lo 37 8 v n xs) {g : Nat} (hg : v.ownBlock = some g) : ∃ cs, W.heap[g]? = some (.cells cs 37 (0, 0)) := by
  rcases h.2 with ⟨rfl, _⟩ | ⟨g', cap, cur, rfl, _, hgg, _⟩
  · simp [Value.ownBlock] at hg
  · simp [Value.ownBlock] at hg
    subst hg
    exact ⟨_, hgg⟩
theorem Lv.keep {lo : Nat} {W W' : World} {rs : List (Value × List Ek)} (h : Lv lo W rs) (hk : KeepNd W W') : Lv lo W' rs :=
  ⟨fun i r hr => ownsRow_same (h.own i r hr) fun g hg => by obtain ⟨cs, hcs⟩ := ownsRow_node (h.own i r hr) hg; exact hk.same g cs hcs, h.apart⟩
theorem Fz.keep {lo : Nat} {W W' : World} {rs : List (Value × List Ek)} {b : Nat} (h : Fz lo W rs b) (hk : KeepNd W W') : Fz lo W' rs b := by
  obtain ⟨h1, ⟨cs, h2⟩, h3⟩ := h
  exact ⟨h1, ⟨cs, (hk.same b cs h2).trans h2⟩, h3⟩
theorem SlN.fz {d lo : Nat} {W W' : World} {rs rs' : List (Value × List Ek)} {A : Option Addr} {l : List Nd} (h : SlN d W (Fz lo W rs) A l) (hk : ∀ b, Fz lo W rs b → W'.heap[b]? = W.heap[b]? ∧ Fz lo W' rs' b) : SlN d W' (Fz lo W' rs') A l :=
  (h.keep fun b hb => (hk b hb).1).mono fun b hb => (hk b hb).2
theorem SlN.keepN {d lo : Nat} {W W' : World} {rs : List (Value × List Ek)} {A : Option Addr} {l : List Nd} (h : SlN d W (Fz lo W rs) A l) (hk : KeepNd W W') : SlN d W' (Fz lo W' rs) A l :=
  h.fz fun b hb => ⟨by obtain ⟨_, ⟨cs, h2⟩, _⟩ := hb; exact hk.same b cs h2, hb.keep hk⟩
theorem Fz.lt {lo : Nat} {W : World} {rs : List (Value × List Ek)} {b : Nat} (h : Fz lo W rs b) : b < W.heap.size := by
  obtain ⟨_, ⟨cs, h2⟩, _⟩ := h
  exact (Array.getElem?_eq_some_iff.1 h2).1
/-- one row turns: grown, shrunk, or written -/
theorem Lv.put {lo i : Nat} {W W' : World} {rs : List (Value × List Ek)} {v v' : Value} {l l' : List Ek} (h : Lv lo W rs) (hi : rs[i]? = some (v, l)) (ho : W'.ownsRow lo 37 8 v' l'.length (catN l')) (hg : W.grownBy W' v.ownBlock)
    (hv : v'.ownBlock = v.ownBlock ∨ v'.ownBlock = some W.heap.size) :
    Lv lo W' (rs.set i (v', l')) ∧ ∀ b, Fz lo W rs b → W'.heap[b]? = W.heap[b]? ∧ Fz lo W' (rs.set i (v', l')) b := by
  have hlt := (List.getElem?_eq_some_iff.1 hi).1
  have hget : ∀ j, (rs.set i (v', l'))[j]? = if i = j then some (v', l') else rs[j]? := fun j => by
    rw [List.getElem?_set]
    by_cases e : i = j
    · rw [if_pos e, if_pos e, if_pos hlt]
    · rw [if_neg e, if_neg e]
  have hold : ∀ j r g, i ≠ j → rs[j]? = some r → r.1.ownBlock = some g → g < W.heap.size ∧ some g ≠ v.ownBlock ∧ W'.heap[g]? = W.heap[g]? := fun j r g hj hr hgb => by
    have h1 := ((h.own j r hr).lt g hgb).2
    have h2 : some g ≠ v.ownBlock := fun e => hj (h.apart i j (v, l) r g hi hr e.symm hgb)
    exact ⟨h1, h2, hg.block g h1 h2⟩
  have hnew : ∀ j r g, i ≠ j → rs[j]? = some r → r.1.ownBlock = some g → v'.ownBlock ≠ some g := fun j r g hj hr hgb e => by
    obtain ⟨h1, h2, _⟩ := hold j r g hj hr hgb
    rcases hv with e2 | e2
    · exact h2 (by rw [← e2, e])
    · rw [e2] at e
      injection e with e
      omega
  refine ⟨⟨fun j r hr => ?_, fun a c r r' g ha hc hra hrc => ?_⟩, fun b hb => ?_⟩
  · rw [hget] at hr
    by_cases e : i = j
    · rw [if_pos e] at hr
      cases hr
      exact ho
    · rw [if_neg e] at hr
      exact ownsRow_same (h.own j r hr) fun g hgb => (hold j r g e hr hgb).2.2
  · rw [hget] at ha hc
    by_cases ea : i = a
    · by_cases ec : i = c
      · exact ea.symm.trans ec
      · rw [if_pos ea] at ha
        rw [if_neg ec] at hc
        cases ha
        exact absurd hra (hnew c r' g ec hc hrc)
    · rw [if_neg ea] at ha
      by_cases ec : i = c
      · rw [if_pos ec] at hc
        cases hc
        exact absurd hrc (hnew a r g ea ha hra)
      · rw [if_neg ec] at hc
        exact h.apart a c r r' g ha hc hra hrc
  · have hne : some b ≠ v.ownBlock := fun e => hb.2.2 (v, l) (List.mem_of_getElem? hi) e.symm
    have hbl := hg.block b hb.lt hne
    obtain ⟨h1, ⟨cs, h2⟩, h3⟩ := id hb
    refine ⟨hbl, h1, ⟨cs, hbl.trans h2⟩, fun r hr => ?_⟩
    rcases List.mem_or_eq_of_mem_set hr with hr | rfl
    · exact h3 r hr
    · show v'.ownBlock ≠ some b
      rcases hv with e2 | e2
      · rw [e2]; exact fun e => hne e.symm
      · rw [e2]
        intro e
        injection e with e
        have := hb.lt
        omega
/-- a row more, that lies nowhere -/
theorem Lv.more {lo : Nat} {W : World} {rs : List (Value × List Ek)} (h : Lv lo W rs) : Lv lo W (rs ++ [(.slice none 0 0, [])]) := by
  refine ⟨fun i r hr => ?_, fun i j r r' g hi hj hg hg' => ?_⟩
  · rcases Nat.lt_or_ge i rs.length with hlt | hge
    · rw [List.getElem?_append_left hlt] at hr
      exact h.own i r hr
    · rw [List.getElem?_append_right hge] at hr
      obtain ⟨_, e⟩ := List.getElem?_eq_some_iff.1 hr
      have hr2 : r = (.slice none 0 0, []) := by
        have := List.mem_of_getElem? hr
        simpa using this
      subst hr2
      exact World.ownsRow_nil _ _ _ _
  · have old : ∀ (k : Nat) (r : Value × List Ek) (g : Nat), (rs ++ [(.slice none 0 0, [])])[k]? = some r → r.1.ownBlock = some g → rs[k]? = some r := fun k r g hk hg => by
      rcases Nat.lt_or_ge k rs.length with hlt | hge
      · rw [List.getElem?_append_left hlt] at hk
        exact hk
      · rw [List.getElem?_append_right hge] at hk
        have hr2 : r = (.slice none 0 0, []) := by
          have := List.mem_of_getElem? hk
          simpa using this
        subst hr2
        simp [Value.ownBlock] at hg
    exact h.apart i j r r' g (old i r g hi hg) (old j r' g hj hg') hg hg'
theorem Fz.more {lo b : Nat} {W : World} {rs : List (Value × List Ek)} (h : Fz lo W rs b) : Fz lo W (rs ++ [(.slice none 0 0, [])]) b :=
  ⟨h.1, h.2.1, fun r hr => by
    rcases List.mem_append.1 hr with hr | hr
    · exact h.2.2 r hr
    · have hr2 : r = (.slice none 0 0, []) := by simpa using hr
      subst hr2
      simp [Value.ownBlock]⟩
/-- a row less -/
theorem Lv.less {lo : Nat} {W : World} {rs : List (Value × List Ek)} {r : Value × List Ek} (h : Lv lo W (rs ++ [r])) : Lv lo W rs ∧ (∀ b, Fz lo W (rs ++ [r]) b → Fz lo W rs b) ∧ ∀ g, r.1.ownBlock = some g → Fz lo W rs g := by
  have up : ∀ (i : Nat) (x : Value × List Ek), rs[i]? = some x → (rs ++ [r])[i]? = some x := fun i x hx => by
    rw [List.getElem?_append_left (List.getElem?_eq_some_iff.1 hx).1]
    exact hx
  refine ⟨⟨fun i x hx => h.own i x (up i x hx), fun i j x y g hi hj => h.apart i j x y g (up i x hi) (up j y hj)⟩, fun b hb => ⟨hb.1, hb.2.1, fun x hx => hb.2.2 x (List.mem_append_left _ hx)⟩, fun g hg => ?_⟩
  have hr : (rs ++ [r])[rs.length]? = some r := by rw [List.getElem?_append_right (Nat.le_refl _), Nat.sub_self]; rfl
  refine ⟨((h.own _ _ hr).lt g hg).1, ownsRow_node (h.own _ _ hr) hg, fun x hx e => ?_⟩
  obtain ⟨i, hi⟩ := List.getElem?_of_mem hx
  have := h.apart i rs.length x r g (up i x hi) hr e hg
  have hlt := (List.getElem?_eq_some_iff.1 hi).1
  omega
/-- an owned row reads as its nodes -/
theorem sl_row {d lo : Nat} {W : World} {F : Nat → Prop} {A : Option Addr} {c : Nat} {l : List Ek} (ho : W.ownsRow lo 37 8 (.slice A l.length c) l.length (catN l)) (hF : ∀ g, (Value.slice A l.length c).ownBlock = some g → F g) (hl : l.length ≤ 1000000) (hk : ∀ e ∈ l, SlN d W F e.2.1 e.1.kids) :
    SlN (d + 1) W F A (l.map (·.1)) := by
  refine ⟨by rw [List.length_map]; omega, fun hne => ?_⟩
  have hpos : 0 < l.length := by
    rcases Nat.eq_zero_or_pos l.length with e | e
    · rw [List.length_eq_zero_iff] at e
      rw [e] at hne
      exact absurd rfl hne
    · exact e
  obtain ⟨g, rfl⟩ : ∃ g, A = some ⟨g, 0, none⟩ := by
    rcases ho.2 with ⟨_, e⟩ | ⟨g, cap, cur, e, _⟩
    · omega
    · cases e
      exact ⟨g, rfl⟩
  refine ⟨g, 0, rfl, hF g rfl, fun j x hx => ?_⟩
  obtain ⟨p, hp, rfl⟩ : ∃ p, l[j]? = some p ∧ p.1 = x := by simpa using hx
  have hj := (List.getElem?_eq_some_iff.1 hp).1
  refine ⟨p.2.1, p.2.2, fun i hi => ?_, hk p (List.mem_of_getElem? hp)⟩
  rw [Nat.zero_add, ho.cellAt (j * 8 + i) (by omega), catN_at l j i hi, hp]
  rfl
end Go.Proofs.YthbighnkohjfnaaGreatDoor
