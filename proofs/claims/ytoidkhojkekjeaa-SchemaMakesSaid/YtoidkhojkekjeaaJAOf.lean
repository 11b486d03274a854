import Derived.Deep.LoopGhost
import Derived.Lib.Hide
import Derived.Maps.AppendAt
import Derived.Test.YtoidkhojkekjeaaJAValR
import Derived.RangeFuncNested
import Derived.Test.YtoidkhojkekjeaaJARefOf
import Derived.Test.YtoidkhojkekjeaaJAFCut
import Derived.Test.YtoidkhojkekjeaaJARefB
import Derived.Test.YtoidkhojkekjeaaJAMade
import Derived.Test.YtoidkhojkekjeaaJFRunT
import Derived.Maps.OwnIn
import Derived.Test.YtoidkhojkekjeaaJAMakesL
/-
  CONTRACT: the program's Alter: a set of what stays, that the call makes.
-/
namespace Go.Proofs.Ytoidkhojkekjeaa
open Go.RowKit Go.Maps

theorem ownsMap_below {H : Type} {P : Program} {k : TypeId} {R : Value → Option (DataW H × List MemPlace)} {w w' : World} {b n B : Nat} {D : DataW H} (h : w.ownsMap P k R b n D) (hb : Below B w w') (hlt : b < B) : w'.ownsMap P k R b n D := by
  obtain ⟨es, clock, h1, r⟩ := h
  exact ⟨es, clock, (hb.block b hlt).trans h1, r⟩

set_option maxRecDepth 100000 in
set_option maxHeartbeats 4000000 in
theorem alter_any (A A' : Option Addr) (c c' : Nat) (l r : List Att) (w : World) (hs : SlA w w.heap.size A l) (hs' : SlA w w.heap.size A' r) (hl : l.length ≤ 1000) (hr : r.length ≤ 1000) (ok : ∀ a ∈ l, AttOk a) (ok' : ∀ a ∈ r, AttOk a) :
    Calls Try.prog 22 #[.slice A l.length c, .slice A' r.length c'] w fun e w' => e = .returned (.int .i64 (altN l r)) ∧ Below w.heap.size w w' := by
  have hmm := @run_makeMap Try.prog
  have HS := Lib.hid hs
  have HS' := Lib.hid hs'
  have HO := Lib.hid ok
  have HO' := Lib.hid ok'
  clear hs hs' ok ok'
  go_enter Try.func22, Try.ntmps22
  go_wp2
  go_loopg [15] r.length (fun g i wr => ∃ k : Nat, i = .int .i64 k ∧ k + g = r.length ∧ Hid (wr.ownsMap Try.prog 75 unitElem w.heap.size k (setA (H := Unit) (r.take k))) ∧ Hid (Below w.heap.size w wr) ∧ w.heap.size + 1 ≤ wr.heap.size)
  case atStart => exact ⟨0, rfl, by omega, by rw [List.take_zero]; exact World.ownsMap_made _ _ _ _, (Below.refl _ _).alloc (Nat.le_refl _) _, by simp⟩
  case round =>
    obtain ⟨k, rfl, hk, HM, HB, hsz⟩ := hrel
    cases gk with
    | zero =>
      have hki : ¬ (k : Int) < (r.length : Int) := by omega
      have HM2 : Hid (wr.ownsMap Try.prog 75 unitElem w.heap.size k (setA (H := Unit) r)) := by
        have := HM.out
        rw [List.take_of_length_le (by omega)] at this
        exact this
      clear HM
      go_wp2
      go_loopg [26] l.length (fun g i w2 => ∃ j : Nat, i = .int .i64 j ∧ j + g = l.length ∧ Hid (altB (l.drop j) r = altB l r) ∧ Hid (w2.ownsMap Try.prog 75 unitElem w.heap.size k (setA (H := Unit) r)) ∧ Hid (Below w.heap.size w w2) ∧ w.heap.size + 1 ≤ w2.heap.size)
      case atStart => exact ⟨0, rfl, by omega, by rw [List.drop_zero]; rfl, HM2, HB, hsz⟩
      case round =>
        obtain ⟨j, rfl, hj, HJ, HM3, HB3, hsz3⟩ := hrel
        cases gk with
        | zero =>
          have hji : ¬ (j : Int) < (l.length : Int) := by omega
          have HE : Hid (altN l r = 0) := by
            show _ = _
            have := HJ.out
            rw [List.drop_eq_nil_of_le (by omega)] at this
            unfold altN
            rw [← this]
            rfl
          go_wp2
          go_ret
          exact ⟨by rw [HE.out]; rfl, HB3.out⟩
        | succ g =>
          have hji : (j : Int) < (l.length : Int) := by omega
          have hjn : j < l.length := by omega
          obtain ⟨b, o, rfl, hbl, hp⟩ := (HS.out.next HB3.out (Nat.le_refl _)).at_ hjn
          have hd : altB (l.drop j) r = ((r.any fun a => sameA a l[j]) && altB (l.drop (j + 1)) r) := by rw [List.drop_eq_getElem_cons hjn]; rfl
          have hoy := HO.out _ (List.getElem_mem hjn)
          obtain ⟨y, hy⟩ : ∃ y, l[j] = y := ⟨_, rfl⟩
          rw [hy] at hp hd hoy
          have hha := has_setA (H := Unit) r y HO'.out hoy
          have hky := keyOf_att hoy
          have HD := Lib.hid hd
          have HH := Lib.hid hha
          have HK := Lib.hid hky
          have y0 := hp.c0
          have y1 := hp.c1
          have y2 := hp.c2
          have y3 := hp.c3
          have y4 := hp.c4
          have y5 := hp.c5
          have y6 := hp.c6
          clear hp hy hd hha hky hoy
          go_wp2_with (first
            | (go_at_call 34; refine (stays_any y _).mono ?_; rintro e w5 ⟨rfl, hb5⟩; have HB5 := Lib.hid hb5; have HM5 := Lib.hid (ownsMap_below (HM3.out.alloc _) hb5 (by simp; omega)); clear hb5)
            | (at_lookup; refine wpList_lookup_own_unit _ rfl _ _ 72 rfl 75 73 lawSt Try.underlying72 (zeroSt _) w.heap.size k _ rfl HM5.out _ _ rfl HK.out ?_)
            | go_in)
          · have ht : (!Maps.has (setA (H := Unit) r) (keyA y)) = true := by assumption
            have HE : altN l r = 77 := by
              rw [HH.out] at ht
              simp only [Bool.not_eq_true'] at ht
              unfold altN
              rw [← HJ.out, HD.out, ht]
              rfl
            go_ret
            have hbb := (HB3.out.alloc HB3.out.size _).trans (HB5.out.mono (by simp; omega))
            exact ⟨by rw [HE]; rfl, hbb.alloc hbb.size _⟩
          · have ht : (!Maps.has (setA (H := Unit) r) (keyA y)) = false := by assumption
            have HN : altB (l.drop (j + 1)) r = altB l r := by
              rw [HH.out] at ht
              simp only [Bool.not_eq_false'] at ht
              rw [← HJ.out, HD.out, ht, Bool.true_and]
            have s5 := HB5.out.size
            simp at s5
            go_roundg g
            case measure => omega
            case rel =>
              have hbb := (HB3.out.alloc HB3.out.size _).trans (HB5.out.mono (by simp; omega))
              exact ⟨j + 1, by go_num, by omega, HN, HM5.out.alloc _, hbb.alloc hbb.size _, by simp; omega⟩
    | succ g =>
      have hki : (k : Int) < (r.length : Int) := by omega
      have hkn : k < r.length := by omega
      obtain ⟨b, o, rfl, hbl, hp⟩ := (HS'.out.next HB.out (Nat.le_refl _)).at_ hkn
      have hse : setA (H := Unit) (r.take (k + 1)) = (setA (r.take k)).put (keyA r[k]) (.agg []) := by
        rw [← setA_snoc, List.take_add_one, List.getElem?_eq_getElem hkn]
        rfl
      have hoy := HO'.out _ (List.getElem_mem hkn)
      obtain ⟨y, hy⟩ : ∃ y, r[k] = y := ⟨_, rfl⟩
      rw [hy] at hp hse hoy
      have hky := keyOf_att hoy
      have HE := Lib.hid hse
      have HK := Lib.hid hky
      have y0 := hp.c0
      have y1 := hp.c1
      have y2 := hp.c2
      have y3 := hp.c3
      have y4 := hp.c4
      have y5 := hp.c5
      have y6 := hp.c6
      clear hp hy hse hky hoy
      go_wp2_with (first
        | (go_at_call 34; refine (stays_any y _).mono ?_; rintro e w5 ⟨rfl, hb5⟩; have HB5 := Lib.hid hb5; have HM5 := Lib.hid (ownsMap_below (HM.out.alloc _) hb5 (by simp; omega)); clear hb5)
        | (at_mapUpdate; refine wpList_mapUpdate_own _ rfl _ _ _ 72 rfl 75 73 lawSt Try.underlying72 (unitElem (H := Unit)) w.heap.size k _ rfl HM5.out (by unfold maxLen; omega) _ _ _ rfl rfl HK.out _ [] unitElem_mk ?_; intro w1 hown1 hgrow1)
        | go_in)
      go_roundg g
      case measure => omega
      case rel =>
        have s5 := HB5.out.size
        have s1 := hgrow1.size
        simp at s5 s1
        refine ⟨k + 1, by go_num, by omega, by rw [HE.out]; exact hown1, ?_, by omega⟩
        exact (((HB.out.alloc HB.out.size _).trans (HB5.out.mono (by simp; omega))).grown hgrow1 (by omega) (fun j hj => by cases hj; exact Nat.le_refl _))
end Go.Proofs.Ytoidkhojkekjeaa

/-
  FRAMES: what a round over an iterator keeps, where the round appends to a row of the iterator's own type; names in a map.
-/
namespace Go.Proofs.Ytoidkhojkekjeaa
open Go.RowKit Go.Shelf Go.Maps

/-- the row that the caller's box names lies in block k -/
def RowAt (X : World) (bA k : Nat) : Prop := ∃ n c j, X.cell? ⟨bA, 0, none⟩ = some (.slice (some ⟨k, j, none⟩) n c)
/-- what a round keeps: what lay below n0; and of cells, all but the caller's box and the row that it names -/
structure KpA (n0 bA : Nat) (X Y : World) : Prop where
  low : Below n0 X Y
  size : X.heap.size ≤ Y.heap.size
  cells : ∀ k cs t fr, X.heap[k]? = some (.cells cs t fr) → k ≠ bA → ¬ RowAt X bA k → Y.heap[k]? = some (.cells cs t fr)
  row : ∀ k, RowAt Y bA k → RowAt X bA k ∨ X.heap.size ≤ k
theorem KpA.refl (n0 bA : Nat) (X : World) : KpA n0 bA X X := ⟨Below.refl _ _, Nat.le_refl _, fun _ _ _ _ h _ _ => h, fun _ h => .inl h⟩
theorem KpA.trans {n0 bA : Nat} {A B C : World} (h : KpA n0 bA A B) (k : KpA n0 bA B C) : KpA n0 bA A C where
  low := h.low.trans k.low
  size := Nat.le_trans h.size k.size
  cells := fun i cs t fr hi hn hr => by
    refine k.cells i cs t fr (h.cells i cs t fr hi hn hr) hn (fun hb => ?_)
    rcases h.row i hb with h1 | h1
    · exact hr h1
    · have := (Array.getElem?_eq_some_iff.1 hi).1
      omega
  row := fun i hc => by
    rcases k.row i hc with h1 | h1
    · exact h.row i h1
    · exact .inr (Nat.le_trans h.size h1)
theorem kpA_below {n0 bA : Nat} {X Y : World} (hb : Below X.heap.size X Y) (h0 : n0 ≤ X.heap.size) (hA : bA < X.heap.size) : KpA n0 bA X Y where
  low := hb.mono h0
  size := hb.size
  cells := fun k _ _ _ hk _ _ => (hb.block k (Array.getElem?_eq_some_iff.1 hk).1).trans hk
  row := fun _ ⟨n, c, j, h⟩ => .inl ⟨n, c, j, (hb.cell (p := ⟨bA, 0, none⟩) hA).symm.trans h⟩
theorem kpA_put {n0 bA M : Nat} (h0 : n0 ≤ M) (hA : bA < M) (W : World) (l : Nat) (o' : Obj) {o : Obj} (hl : M ≤ l) (h : W.heap[l]? = some o) (hc : o.isCells = false) : KpA n0 bA W (W.putObj l o') where
  low := (Below.refl n0 W).grown (grownBy_putObj' W l o') (by have := (Array.getElem?_eq_some_iff.1 h).1; omega) (fun k e => by cases e; omega)
  size := by simp
  cells := fun k cs t fr hk _ _ => by
    by_cases e : k = l
    · subst e
      rw [h] at hk
      cases hk
      cases hc
    · exact (World.putObj_heap_other e).trans hk
  row := fun k ⟨n, c, j, h9⟩ => .inl ⟨n, c, j, by
    have hb : (W.putObj l o').heap[bA]? = W.heap[bA]? := World.putObj_heap_other (by omega)
    rwa [World.cell?_of_block (w := W) (a := ⟨bA, 0, none⟩) hb] at h9⟩
/-- an attribute lies in no box of one cell -/
theorem AtAt.not_box {X : World} {b o bA : Nat} {t : TypeId} {v : Value} {a : Att} (h : AtAt X b o a) (hb : Boxed X bA t v) : b ≠ bA := fun e => by
  subst e
  have h1 := h.c1
  simp only [World.cell?, show X.heap[b]? = _ from hb] at h1
  simp at h1
theorem cell_block {X : World} {b i : Nat} {v : Value} (h : X.cell? ⟨b, i, none⟩ = some v) : ∃ cs t fr, X.heap[b]? = some (.cells cs t fr) := by
  unfold World.cell? at h
  split at h
  · rename_i cs t fr e
    exact ⟨cs, t, fr, e⟩
  · cases h
theorem row_nil {X : World} {bA : Nat} {t : TypeId} (hb : Boxed X bA t (.slice none 0 0)) (k : Nat) : ¬ RowAt X bA k := fun ⟨n, c, j, h⟩ => by
  rw [hb.cell] at h
  cases h
/-- what is read of attributes that lie beside the caller's -/
theorem KpA.att {n0 bA : Nat} {X Y : World} {t : TypeId} {b o : Nat} {a : Att} (h : KpA n0 bA X Y) (hb : Boxed X bA t (.slice none 0 0)) (ha : AtAt X b o a) : AtAt Y b o a := fun i hi => by
  obtain ⟨cs, t', fr, hc⟩ := cell_block ha.c0
  have h1 := h.cells b cs t' fr hc (ha.not_box hb) (row_nil hb b)
  rw [World.cell?_of_block (w := X) (a := ⟨b, o + i, none⟩) (show Y.heap[b]? = X.heap[b]? by rw [h1, hc])]
  exact ha i hi
theorem KpA.box {n0 bA : Nat} {X Y : World} {t t' : TypeId} {b : Nat} {v : Value} (h : KpA n0 bA X Y) (hb : Boxed X bA t (.slice none 0 0)) (ha : Boxed X b t' v) (hne : b ≠ bA) : Boxed Y b t' v := h.cells b _ _ _ ha hne (row_nil hb b)

/-! ### names in a map -/
def nmK (a : Att) : Lit := .string a.nm.data.toList
def anyE {H : Type} : Value → Option (DataW H × List MemPlace) := fun _ => some (.agg [], [])
theorem anyE_mk {H : Type} (v : Value) : anyE (H := H) v = some (.agg [], []) := rfl
theorem lawNm : Keyed Try.prog 9 := string_keyed Try.underlying9
theorem keyOf_nm {s : ByteArray} (h : s.size ≤ maxLen) : keyOf Try.prog 9 (.string s) = some (.string s.data.toList) := by
  unfold keyOf
  rw [Try.underlying9]
  simp only
  unfold mapKey
  rw [Try.underlying9]
  simp [h]
def setN {H : Type} (l : List Att) : DataW H := setOf (.agg []) (l.map nmK)
theorem setN_nil {H : Type} : setN (H := H) [] = .map [] := rfl
theorem setN_snoc {H : Type} (l : List Att) (x : Att) : setN (H := H) (l ++ [x]) = (setN l).put (nmK x) (.agg []) := by
  unfold setN
  rw [List.map_append, List.map_singleton, setOf_snoc]
theorem has_setN {H : Type} (l : List Att) (x : Att) : Maps.has (setN (H := H) l) (nmK x) = l.any (fun a => decide (a.nm = x.nm)) := by
  unfold setN
  rw [has_setOf _ _ _ (fun y hy => by obtain ⟨_, _, rfl⟩ := List.mem_map.1 hy; trivial), List.any_map]
  induction l with
  | nil => rfl
  | cons a r ih =>
    rw [List.any_cons, List.any_cons, ih]
    congr 1
    show (a.nm.data.toList == x.nm.data.toList) = _
    by_cases e : a.nm = x.nm
    · simp [e]
    · rw [decide_eq_false e, beq_eq_false_iff_ne]
      exact fun h => e (ByteArray.ext (Array.toList_inj.1 h))
/-- no two of the first names are one -/
theorem oneName_snoc {l : List Att} {x : Att} (h : oneName l) (hx : l.any (fun a => decide (a.nm = x.nm)) = false) : oneName (l ++ [x]) := by
  unfold oneName at h ⊢
  rw [List.map_append, List.nodup_append]
  refine ⟨h, by simp, fun a ha b hb e => ?_⟩
  obtain ⟨y, hy, rfl⟩ := List.mem_map.1 ha
  simp at hb
  rw [List.any_eq_false] at hx
  have := hx y hy
  simp at this
  exact this (e.trans hb)
theorem oneName_two {l r : List Att} {x : Att} (hx : l.any (fun a => decide (a.nm = x.nm)) = true) : ¬ oneName (l ++ x :: r) := fun h => by
  unfold oneName at h
  rw [List.map_append, List.nodup_append] at h
  obtain ⟨y, hy, hd⟩ := List.any_eq_true.1 hx
  simp at hd
  exact h.2.2 _ (List.mem_map.2 ⟨y, hy, rfl⟩) _ (by simp) hd
/-- the attributes of facts, run by run -/
theorem atts_runs {fs : List FactP} {rs : List (List FactP)} (h : mayFs fs = true) (hr : RunsE fs rs) : attsL fs = builtL ++ rs.filterMap madeR := by
  unfold attsL
  rw [docFrom_may h hr]
end Go.Proofs.Ytoidkhojkekjeaa

/-
  CONTRACT: the iterator over facts' attributes.
-/
namespace Go.Proofs.Ytoidkhojkekjeaa
open Go.RowKit Go.Shelf
attribute [local go_sem] Oper.semAt_some

/-- One round of the loop that is handed attributes. -/
def HandsA (T : List Att) (n0 bA lp : Nat) (J Jx : List (Fin T.length) → World → Prop) : Prop :=
  ∀ m pre (x : Fin T.length) W, J pre W → pre.length < T.length → YieldAt Fence.wide m Try.prog lp #[attV T[x.val]] W fun e W' =>
    (e = .returned (.bool true) ∧ J (pre ++ [x]) W' ∧ KpA n0 bA W W') ∨ (e = .returned (.bool false) ∧ Jx (pre ++ [x]) W')
/-- the facts that are left: a slice that reads as them, their cut, what is still to come -/
structure RestF (w0 : World) (T : List Att) (x : Value) (gs : List FactP) (rs : List (List FactP)) (q : Nat) : Prop where
  f : FVa w0 x gs
  r : RunsE gs rs
  t : T.drop q = rs.filterMap madeR
  q : q ≤ T.length
  l : gs.length ≤ 1954687338268
theorem RestF.end {w0 : World} {T : List Att} {x : Value} {rs : List (List FactP)} {q : Nat} (h : RestF w0 T x [] rs q) : q = T.length := by
  have hr := h.r
  have ht := h.t
  have hq := h.q
  cases hr with
  | nil => 
    have := congrArg List.length ht
    simp at this
    omega
  | cons h1 _ =>
    have h2 := h1.pos
    have h3 := h1.le
    simp at h3
    omega
theorem oneAt_one {fs : List FactP} {n m : Nat} (h : OneAt fs n) (k : OneAt fs m) : n = m := by
  have hh : ∀ {n m : Nat}, OneAt fs n → OneAt fs m → ¬ n < m := fun {n m} h k hlt => by
    have h1 : n < fs.length := Nat.lt_of_lt_of_le hlt k.le
    have h0 : 0 < fs.length := by have := h.pos; omega
    exact h.next _ _ (List.getElem?_eq_getElem h1) (List.getElem?_eq_getElem h0) (k.same n _ _ hlt (List.getElem?_eq_getElem h1) (List.getElem?_eq_getElem h0))
  have := hh h k
  have := hh k h
  omega
theorem RestF.step {w0 : World} {T : List Att} {A : Option Addr} {c : Nat} {gs : List FactP} {rs : List (List FactP)} {q k : Nat} (h : RestF w0 T (.slice A gs.length c) gs rs q) (hk : OneAt gs k) :
    (madeR (gs.take k) = none → ∃ rs', RestF w0 T (.slice (cutFa A c k) (gs.length - k) (c - k)) (gs.drop k) rs' q) ∧ (∀ y, madeR (gs.take k) = some y → ∃ hq : q < T.length, T[q] = y ∧ ∃ rs', RestF w0 T (.slice (cutFa A c k) (gs.length - k) (c - k)) (gs.drop k) rs' (q + 1)) := by
  have hr := h.r
  have ht := h.t
  have hf := FVa.drop h.f k hk.le
  rw [List.length_drop] at hf
  have hl := h.l
  cases hr with
  | nil =>
    have h2 := hk.pos
    have h3 := hk.le
    simp at h3
    omega
  | @cons _ n rs h1 h2 =>
    obtain rfl := oneAt_one h1 hk
    rw [List.filterMap_cons] at ht
    refine ⟨fun hn => ?_, fun y hy => ?_⟩
    · rw [hn] at ht
      exact ⟨rs, hf, h2, ht, h.q, by rw [List.length_drop]; omega⟩
    · rw [hy] at ht
      simp only at ht
      have hq : q < T.length := by
        rcases Nat.lt_or_ge q T.length with h3 | h3
        · exact h3
        · rw [List.drop_of_length_le h3] at ht
          cases ht
      rw [List.drop_eq_getElem_cons hq] at ht
      injection ht with h3 h4
      exact ⟨hq, h3, rs, hf, h2, h4, hq, by rw [List.length_drop]; omega⟩
def lenS : Value → Nat
  | .slice _ n _ => n
  | _ => 0

set_option maxRecDepth 100000 in
set_option maxHeartbeats 4000000 in
theorem iter_in (lp bA Bl C : Nat) (A : Option Addr) (c : Nat) (fs : List FactP) (T : List Att) (w0 : World) (rs : List (List FactP)) (J Jx : List (Fin T.length) → World → Prop) (hA : AbidesFrom C J) (hY : HandsA T w0.heap.size bA lp J Jx) (n : Nat)
    (W : World) (hB : Below w0.heap.size w0 W) (hs : FVa w0 (.slice A fs.length c) fs) (hl : fs.length ≤ 1954687338268) (hR : RunsE fs rs) (hT : T = builtL ++ rs.filterMap madeR)
    (hb : Boxed W Bl 22 (.slice A fs.length c)) (hbA : Boxed W bA 24 (.slice none 0 0)) (hne : Bl ≠ bA) (hJ : J [] W) :
    CallsIn Fence.wide n Try.prog 37 #[.func (.yield lp) #[] #[], .pointer (some ⟨Bl, 0, none⟩)] W fun e W' =>
      (∃ v, e = .returned v) ∧ (J (allN _) W' ∨ ∃ q, q <+: allN _ ∧ Jx q W') := by
  refine callsIn_of_wp Try.func37 rfl trivial ?_ rfl
  simp only [Try.ntmps37, List.size_toArray, List.length_cons, List.length_nil, Nat.reduceAdd, Nat.reduceSub, Array.replicate_succ, Array.replicate_zero, List.push_toArray, List.append_toArray, List.nil_append, List.cons_append]
  have hT7 : 7 ≤ T.length := by rw [hT, List.length_append]; have : builtL.length = 7 := rfl; omega
  have HTB : Hid (∀ (j : Nat) (h : j < 7) (h2 : j < T.length) (h3 : j < builtL.length), T[j] = builtL[j]) := fun j h h2 h3 => by
    subst hT
    rw [List.getElem_append_left h3]
  have HST : Hid (RestF w0 T (.slice A fs.length c) fs rs 7) := ⟨hs, hR, by rw [hT]; show List.drop builtL.length (builtL ++ _) = _; exact List.drop_left, hT7, hl⟩
  have HB := Lib.hid hB
  have HBL := Lib.hid hb
  have HBA := Lib.hid hbA
  have HZ0 := Lib.hid (show bA < W.heap.size ∧ Bl < W.heap.size ∧ w0.heap.size ≤ W.heap.size from ⟨hbA.lt, hb.lt, hB.size⟩)
  have HNE := Lib.hid hne
  clear hB hs hR hT hb hbA hne
  gi_wp2_with fail
  refine ⟨trivial, wide_deep _, ?_⟩
  refine (callsIn_wide.2 (built_any W)).mono ?_
  rintro e W1 ⟨A5, c5, rfl, hs5, hb5⟩
  have hJ1 : J [] W1 := abides_to hA hJ hb5
  have HB1 := Lib.hid hb5
  have HS5 := Lib.hid hs5
  have HZ1 := Lib.hid hb5.size
  clear hJ hb5 hs5
  have hl7 : builtL.length = 7 := rfl
  rw [hl7]
  gi_wp2
  gi_loopw [11] (fun y wr => ∃ j : Nat, y = .int .i64 (j : Int) ∧ j ≤ 7 ∧ J ((allN _).take j) wr ∧ Hid (KpA w0.heap.size bA W1 wr)) (fun y _ => 7 - (intOf y).toNat)
  case atStart => exact ⟨0, rfl, by omega, by rw [List.take_zero]; exact hJ1, KpA.refl _ _ _⟩
  case round =>
    obtain ⟨j, rfl, hj, hJk, HK⟩ := hrel
    clear hJ1
    by_cases hjl : j < 7
    · have hji : (j : Int) < 7 := by omega
      have hjT : j < T.length := by omega
      have hjb : j < builtL.length := by rw [hl7]; exact hjl
      obtain ⟨b, o, rfl, hlt, hat⟩ := HS5.out.at_ hjb
      have hbA1 : Boxed W1 bA 24 (.slice none 0 0) := (HB1.out.block bA HZ0.out.1).trans HBA.out
      have hp := HK.out.att hbA1 hat
      obtain ⟨x, hx⟩ : ∃ x, builtL[j] = x := ⟨_, rfl⟩
      have HTX : Hid (T[j] = x) := by show _ = _; rw [HTB.out j hjl hjT hjb, hx]
      rw [hx] at hp
      have x0 := hp.c0
      have x1 := hp.c1
      have x2 := hp.c2
      have x3 := hp.c3
      have x4 := hp.c4
      have x5 := hp.c5
      have x6 := hp.c6
      have HTS := Lib.hid (allN_take hjT)
      have HPR := Lib.hid (List.take_prefix (j + 1) (allN T.length))
      have HLN : Hid (((allN T.length).take j).length < T.length) := by show _ < _; rw [List.length_take, allN_len]; omega
      have hbl := (Below.refl wr.heap.size wr).alloc (Nat.le_refl _) (.cells #[.int .i64 x.id, .string x.nm, .int .i64 x.ty, .bool x.many, .int .i64 x.un, .bool x.part, .bool x.ix] 33)
      have hJ4 := abides_to hA hJk hbl
      have HK4 := Lib.hid (HK.out.trans (kpA_below hbl (by have := HK.out.size; have := HZ0.out.2.2; have := HZ1.out; omega) (by have := HK.out.size; have := HZ0.out.1; have := HZ1.out; omega)))
      obtain ⟨fn, tmps, assign, body, hy, hR⟩ := hY (n - 1) _ ⟨j, hjT⟩ _ hJ4 HLN.out
      have hy' : (Instr.yield lp #[.agg #[.int .i64 x.id, .string x.nm, .int .i64 x.ty, .bool x.many, .int .i64 x.un, .bool x.part, .bool x.ix]]).run Try.prog (wr.alloc (.cells #[.int .i64 x.id, .string x.nm, .int .i64 x.ty, .bool x.many, .int .i64 x.un, .bool x.part, .bool x.ix] 33)) = .ok (.round lp fn tmps assign body) (wr.alloc (.cells #[.int .i64 x.id, .string x.nm, .int .i64 x.ty, .bool x.many, .int .i64 x.un, .bool x.part, .bool x.ix] 33)) := by
        have h := hy
        simp only [HTX.out] at h
        exact h
      clear hbl hJ4 hJk hy hp hat hx hbA1
      gi_wp2
      refine ⟨wide_deep _, ?_⟩
      refine hR.mono ?_
      rintro e W5 (⟨rfl, hJ5, hk5⟩ | ⟨rfl, hJx5⟩)
      · gi_wp2
        go_roundw
        case rel => exact ⟨j + 1, by go_num, by omega, by rw [HTS.out]; exact hJ5, HK4.out.trans hk5⟩
        case measure => simp [intOf]; omega
      · gi_wp2
        refine bodyPost_ret (results_none rfl _ _ _) rfl ?_
        exact ⟨⟨_, rfl⟩, .inr ⟨(allN _).take (j + 1), HPR.out, by rw [HTS.out]; exact hJx5⟩⟩
    · have hji : ¬ (j : Int) < 7 := by omega
      obtain rfl : j = 7 := by omega
      have hbx : Boxed wr Bl 22 (.slice A fs.length c) := HK.out.box ((HB1.out.block bA HZ0.out.1).trans HBA.out) ((HB1.out.block Bl HZ0.out.2.1).trans HBL.out) HNE.out
      have k0 := hbx.cell
      clear hbx
      gi_wp2
      gi_loopw [5] (fun x w2 => ∃ (A1 : Option Addr) (c1 : Nat) (gs : List FactP) (rs2 : List (List FactP)) (q : Nat), x = .slice A1 gs.length c1 ∧ Hid (RestF w0 T (.slice A1 gs.length c1) gs rs2 q) ∧ J ((allN _).take q) w2 ∧ Hid (KpA w0.heap.size bA W1 w2)) (fun x _ => lenS x)
      case atStart => exact ⟨A, c, fs, rs, 7, rfl, HST.out, hJk, HK⟩
      case round =>
        obtain ⟨A1, c1, gs, rs2, q, rfl, HR, hJk, HK⟩ := hrel
        have HBW : Hid (Below w0.heap.size w0 wr) := (HB.out.trans (HB1.out.mono HB.out.size)).trans HK.out.low
        by_cases h0 : 0 < gs.length
        · have hgi : (0 : Int) < (gs.length : Int) := by omega
          have HL1 := Lib.hid HR.out.l
          have HO := Lib.hid (ofOne_any A1 c1 gs _ (HR.out.f.next HBW.out) h0 (by have := HL1.out; omega))
          have hcc : gs.length ≤ c1 := by obtain ⟨_, _, e, _, h2, _⟩ := HR.out.f; injection e with _ _ e; omega
          have HCC := Lib.hid hcc
          have HJK := Lib.hid hJk
          have H0 := Lib.hid h0
          clear hJk hcc h0
          gi_wp2_with fail
          refine ⟨trivial, wide_deep _, ?_⟩
          refine (callsIn_wide.2 HO.out).mono ?_
          rintro e W2 ⟨⟨k, rfl, hk⟩, q2, rfl⟩
          have hsl := fun w => sliceFa_from A1 gs.length c1 k hk.le HCC.out w
          obtain ⟨f0, hf0⟩ : ∃ f0, gs[0]? = some f0 := ⟨_, List.getElem?_eq_getElem H0.out⟩
          have htl : (gs.take k).length = k := by rw [List.length_take, Nat.min_eq_left hk.le]
          have ht0 : (gs.take k)[0]? = some f0 := by rw [List.getElem?_take, if_pos (by have := hk.pos; omega), hf0]
          have hmr : madeR (gs.take k) = madeL (foldM f0.e (gs.take k)) := by
            cases hg : gs.take k with
            | nil => rw [hg] at ht0; cases ht0
            | cons g r =>
              rw [hg] at ht0
              cases ht0
              rfl
          have hm := fun w (hw : Below w0.heap.size w0 w) => made_any A1 c1 (gs.take k) w (FVa.take (HR.out.f.next hw) k hk.le) f0 ht0 (by rw [htl]; have := hk.le; have := HL1.out; omega)
          rw [htl] at hm
          have HSTP := HR.out.step hk
          rw [hmr] at HSTP
          obtain ⟨d, hd⟩ : ∃ d, madeL (foldM f0.e (gs.take k)) = d := ⟨_, rfl⟩
          rw [hd] at hm HSTP
          have HM := Lib.hid hm
          have HSP := Lib.hid HSTP
          have HKL := Lib.hid (And.intro hk.pos hk.le)
          clear hm hd hmr ht0 htl hf0 hk HSTP HO
          have HBD : Hid (Below w0.heap.size w0 (World.drewN wr q2)) := below_ind HBW.out q2
          gi_wp2_with fail
          refine ⟨trivial, wide_deep _, ?_⟩
          refine (callsIn_wide.2 (HM.out _ HBD.out)).mono ?_
          rintro e W3 ⟨rfl, hb3⟩
          clear hsl HM
          have HB3 : Hid (Below wr.heap.size wr W3) := (below_ind (Below.refl _ _) q2).trans (hb3.mono (Nat.le_refl _))
          clear hb3
          cases d with
          | none =>
            obtain ⟨rs', HR'⟩ := HSP.out.1 rfl
            have HRN := Lib.hid HR'
            have hbl := HB3.out.alloc HB3.out.size (.cells #[.int .i64 0, .string ⟨#[]⟩, .int .i64 0, .bool false, .int .i64 0, .bool false, .bool false] 33)
            have HJ4 := Lib.hid (abides_to hA HJK.out hbl)
            have HK4 := Lib.hid (HK.out.trans (kpA_below hbl (by have := HK.out.size; have := HZ0.out.2.2; have := HZ1.out; omega) (by have := HK.out.size; have := HZ0.out.1; have := HZ1.out; omega)))
            clear hbl HR' HSP
            simp only [fndV, attV, zA, Option.getD_none, Option.isSome_none]
            gi_wp2
            refine ⟨(fun _ h => by cases h), ?_⟩
            gi_wp2
            go_roundw
            case rel => exact ⟨cutFa A1 c1 k, c1 - k, gs.drop k, rs', q, by rw [List.length_drop], by rw [List.length_drop]; exact HRN.out, HJ4.out, HK4.out⟩
            case measure => have := HKL.out; simp [lenS]; omega
          | some y =>
            obtain ⟨hq, hTq, rs', HR'⟩ := HSP.out.2 y rfl
            have HRN := Lib.hid HR'
            have HTX := Lib.hid hTq
            have HTS := Lib.hid (allN_take hq)
            have HPR := Lib.hid (List.take_prefix (q + 1) (allN T.length))
            have HLN : Hid (((allN T.length).take q).length < T.length) := by show _ < _; rw [List.length_take, allN_len]; omega
            have hbl := HB3.out.alloc HB3.out.size (.cells #[.int .i64 y.id, .string y.nm, .int .i64 y.ty, .bool y.many, .int .i64 y.un, .bool y.part, .bool y.ix] 33)
            have hJ4 := abides_to hA HJK.out hbl
            have HK4 := Lib.hid (HK.out.trans (kpA_below hbl (by have := HK.out.size; have := HZ0.out.2.2; have := HZ1.out; omega) (by have := HK.out.size; have := HZ0.out.1; have := HZ1.out; omega)))
            obtain ⟨fn, tmps, assign, body, hy, hR⟩ := hY (n - 1) _ ⟨q, hq⟩ _ hJ4 HLN.out
            have hy' : (Instr.yield lp #[.agg #[.int .i64 y.id, .string y.nm, .int .i64 y.ty, .bool y.many, .int .i64 y.un, .bool y.part, .bool y.ix]]).run Try.prog (W3.alloc (.cells #[.int .i64 y.id, .string y.nm, .int .i64 y.ty, .bool y.many, .int .i64 y.un, .bool y.part, .bool y.ix] 33)) = .ok (.round lp fn tmps assign body) (W3.alloc (.cells #[.int .i64 y.id, .string y.nm, .int .i64 y.ty, .bool y.many, .int .i64 y.un, .bool y.part, .bool y.ix] 33)) := by
              have h := hy
              simp only [HTX.out] at h
              exact h
            clear hbl hJ4 hy HR' HSP hTq
            simp only [fndV, attV, Option.getD_some, Option.isSome_some]
            gi_wp2
            refine ⟨wide_deep _, ?_⟩
            refine hR.mono ?_
            rintro e W5 (⟨rfl, hJ5, hk5⟩ | ⟨rfl, hJx5⟩)
            · gi_wp2
              go_roundw
              case rel => exact ⟨cutFa A1 c1 k, c1 - k, gs.drop k, rs', q + 1, by rw [List.length_drop], by rw [List.length_drop]; exact HRN.out, by rw [HTS.out]; exact hJ5, HK4.out.trans hk5⟩
              case measure => have := HKL.out; simp [lenS]; omega
            · gi_wp2
              refine bodyPost_ret (results_none rfl _ _ _) rfl ?_
              exact ⟨⟨_, rfl⟩, .inr ⟨(allN _).take (q + 1), HPR.out, by rw [HTS.out]; exact hJx5⟩⟩
        · have hgi : ¬ (0 : Int) < (gs.length : Int) := by omega
          obtain rfl : gs = [] := List.length_eq_zero_iff.1 (by omega)
          obtain rfl := HR.out.end
          rw [List.take_of_length_le (by rw [allN_len]; omega)] at hJk
          gi_wp2
          go_end0
          exact ⟨⟨_, rfl⟩, .inl hJk⟩
end Go.Proofs.Ytoidkhojkekjeaa

/-
  FRAMES of the program's Of: what a round leaves.
-/
namespace Go.Proofs.Ytoidkhojkekjeaa
open Go.RowKit Go.Shelf Go.Maps

theorem iter_stops (n bA Bl : Nat) (A : Option Addr) (c : Nat) (fs : List FactP) (T : List Att) (w0 w : World) (rs : List (List FactP)) (hB : Below w0.heap.size w0 w) (hs : FVa w0 (.slice A fs.length c) fs) (hl : fs.length ≤ 1954687338268) (hR : RunsE fs rs) (hT : T = builtL ++ rs.filterMap madeR)
    (hb : Boxed w Bl 22 (.slice A fs.length c)) (hbA : Boxed w bA 24 (.slice none 0 0)) (hne : Bl ≠ bA) :
    SeqStopsK Fence.wide n Try.prog 37 #[.pointer (some ⟨Bl, 0, none⟩)] (fun x : Fin T.length => #[attV T[x.val]]) (KpA w0.heap.size bA) (fun ys => ys = allN _) (fun q => q <+: allN _) T.length w := fun lp J Jx W hW hA _ hY h0' => by
  have hH : HandsA T w0.heap.size bA lp J Jx := fun m pre x W1 hj hl => YieldAt.anyDepth m (hY pre x W1 hj hl)
  refine (iter_in lp bA Bl W.heap.size A c fs T w0 rs J Jx hA hH n W (hB.trans (hW.mono hB.size)) hs hl hR hT ((hW.block Bl hb.lt).trans hb) ((hW.block bA hbA.lt).trans hbA) hne h0').mono ?_
  rintro e W' ⟨hv, hj | ⟨q, hq, hx⟩⟩
  · exact ⟨hv, .inl ⟨_, rfl, hj⟩⟩
  · exact ⟨hv, .inr ⟨q, hq, hx⟩⟩

/-- the attributes that have come -/
def preL (T : List Att) (pre : List (Fin T.length)) : List Att := pre.map fun i => T[i.val]
theorem preL_snoc (T : List Att) (pre : List (Fin T.length)) (x : Fin T.length) : preL T (pre ++ [x]) = preL T pre ++ [T[x.val]] := by unfold preL; rw [List.map_append]; rfl
theorem preL_all (T : List Att) : preL T (allN T.length) = T := by
  unfold preL allN
  refine List.ext_getElem (by simp) (fun i h1 h2 => ?_)
  simp
theorem preL_len (T : List Att) (pre : List (Fin T.length)) : (preL T pre).length = pre.length := by unfold preL; rw [List.length_map]
theorem preL_pre {T : List Att} {pre : List (Fin T.length)} (h : pre <+: allN T.length) : ∃ r, T = preL T pre ++ r := by
  obtain ⟨t, ht⟩ := h
  refine ⟨preL T t, ?_⟩
  have := preL_all T
  rw [← ht] at this
  unfold preL at this ⊢
  rw [List.map_append] at this
  exact this.symm
/-- what stands while the attributes come -/
structure NMid (w : World) (M b2 b3 bA bN bM : Nat) (T : List Att) (pre : List (Fin T.length)) (W : World) : Prop where
  sz : M ≤ W.heap.size
  low : Below w.heap.size w W
  row : ∃ v, Boxed W bA 24 v ∧ OwnA W w.heap.size v (preL T pre)
  r2 : Boxed W b2 24 (.slice none 0 0)
  r3 : Boxed W b3 25 (.int .i64 0)
  nb : Boxed W bN 57 (.map (some bM))
  map : W.ownsMap (H := Unit) Try.prog 9 anyE bM pre.length (setN (preL T pre))
  one : oneName (preL T pre)
/-- what stands when a name has come twice -/
structure NStop (w : World) (b2 b3 : Nat) (T : List Att) (cd : Code) (pre : List (Fin T.length)) (W : World) : Prop where
  low : Below w.heap.size w W
  r2 : Boxed W b2 24 (.slice none 0 0)
  r3 : Boxed W b3 25 (.int .i64 70)
  cd : cd = .ret
  two : ∃ p x, pre = p ++ [x] ∧ (preL T p).any (fun a => decide (a.nm = T[x.val].nm)) = true
theorem OwnA.kept {W W' : World} {B : Nat} {v : Value} {l : List Att} {row : Option Nat} (h : OwnA W B v l) (hg : W.grownBy W' row) (hr : ∀ r, row = some r → ∃ o : Obj, W.heap[r]? = some o ∧ o.isCells = false) : OwnA W' B v l := by
  refine World.ownsRow.kept h hg ?_
  rcases h.2 with ⟨rfl, _⟩ | ⟨g, cap, cur, rfl, _, hgb, _⟩
  · exact .inl rfl
  · refine .inr (fun e => ?_)
    obtain ⟨o, ho, hc⟩ := hr g e.symm
    rw [hgb] at ho; cases ho; cases hc
theorem nMid_own {w : World} {M b2 b3 bA bN bM : Nat} (T : List Att) (h0 : w.heap.size ≤ M) (h2 : b2 < M) (h3 : b3 < M) (hA : bA < M) (hN : bN < M) (hM : bM < M) : OwnFrom M (NMid w M b2 b3 bA bN bM T) := fun pre X Y row g hg hr => by
  have hne : ∀ b, b < M → some b ≠ row := fun b hb e => by have := (hr b e.symm).1; omega
  obtain ⟨v, g1, g2⟩ := g.row
  exact ⟨Nat.le_trans g.sz hg.size, g.low.grown hg g.low.size (fun j ej => by have := (hr j ej).1; omega), ⟨v, g1.kept hg (hne _ hA), g2.kept hg (fun r e => (hr r e).2)⟩, g.r2.kept hg (hne _ h2), g.r3.kept hg (hne _ h3), g.nb.kept hg (hne _ hN), g.map.kept hg (hne _ hM), g.one⟩
theorem nStop_own {w : World} {M b2 b3 : Nat} (T : List Att) (h0 : w.heap.size ≤ M) (h2 : b2 < M) (h3 : b3 < M) (cd : Code) : OwnFrom M (NStop w b2 b3 T cd) := fun pre X Y row g hg hr => by
  have hne : ∀ b, b < M → some b ≠ row := fun b hb e => by have := (hr b e.symm).1; omega
  exact ⟨g.low.grown hg g.low.size (fun j ej => by have := (hr j ej).1; omega), g.r2.kept hg (hne _ h2), g.r3.kept hg (hne _ h3), g.cd, g.two⟩
/-- an append into the row that the box names -/
theorem att_step {W w1 : World} {n0 bA n : Nat} {v v' : Value} {l : List Att} {xs : List Value} {tmp : Obj} (hv : Boxed W bA 24 v) (h : OwnA W n0 v l) (h0 : n0 ≤ W.heap.size) (hA : n0 ≤ bA) (hgrow : (W.alloc tmp).grownBy w1 v.ownBlock)
    (hat : v'.ownBlock = v.ownBlock ∨ v'.ownBlock = some (W.alloc tmp).heap.size) (hown : w1.ownsRow n0 33 7 v' n xs) :
    Boxed w1 bA 24 v ∧ Boxed (w1.setCell ⟨bA, 0, none⟩ v') bA 24 v' ∧ KeepsOthers W (w1.setCell ⟨bA, 0, none⟩ v') ∧ KpA n0 bA W (w1.setCell ⟨bA, 0, none⟩ v') ∧ (w1.setCell ⟨bA, 0, none⟩ v').ownsRow n0 33 7 v' n xs := by
  have hrow : W.ownsRow n0 33 7 v l.length (l.flatMap cellsA) := h
  have hv1 : Boxed w1 bA _ v := (hv.alloc tmp).kept hgrow (hv.not_row (by decide) hrow)
  have hlo : ∀ j, v.ownBlock = some j → n0 ≤ j := fun j ej => (World.ownsRow.lt hrow j ej).1
  have hs := hgrow.size
  rw [World.size_alloc] at hs
  have hb9 : Boxed (w1.setCell ⟨bA, 0, none⟩ v') bA 24 v' := hv1.set v'
  have hrn : ∀ k, ¬ RowAt W bA k → some k ≠ v.ownBlock := fun k hk e => by
    rcases hrow.2 with ⟨rfl, _⟩ | ⟨g, cap, cur, rfl, _⟩
    · simp [Value.ownBlock] at e
    · have : k = g := by simpa [Value.ownBlock] using e
      subst this
      exact hk ⟨_, _, _, hv.cell⟩
  refine ⟨hv1, hb9, ?_, ⟨?_, ?_, ?_, ?_⟩, ?_⟩
  · refine ((KeepsOthers.alloc W tmp).trans (KeepsOthers.of_grownBy hgrow fun j o ej hj => ?_)).trans (KeepsOthers.setCell _ _ _)
    rcases (World.ownsRow.alloc hrow tmp).2 with ⟨rfl, _⟩ | ⟨g, cap, cur, rfl, _, hgb, _⟩
    · simp [Value.ownBlock] at ej
    · obtain rfl : g = j := by simpa [Value.ownBlock] using ej
      rw [hgb] at hj; cases hj; rfl
  · exact (((Below.refl n0 W).alloc h0 tmp).grown hgrow (by rw [World.size_alloc]; omega) hlo).setCell (p := ⟨bA, 0, none⟩) hA v'
  · simp; omega
  · intro k cs t fr hk hn hr
    have hlt := (Array.getElem?_eq_some_iff.1 hk).1
    exact (Below.heap_setCell _ ⟨bA, 0, none⟩ _ k hn).trans ((hgrow.block k (by rw [World.size_alloc]; omega) (hrn k hr)).trans ((Below.heap_alloc _ _ _ hlt).trans hk))
  · rintro k ⟨m, c, j, hc⟩
    rw [hb9.cell] at hc
    cases hc
    rcases hat with e | e
    · rcases hrow.2 with ⟨rfl, _⟩ | ⟨g, cap, cur, rfl, _⟩
      · simp [Value.ownBlock] at e
      · have : k = g := by simpa [Value.ownBlock] using e
        subst this
        exact .inl ⟨_, _, _, hv.cell⟩
    · right
      have : k = W.heap.size + 1 := by simpa [Value.ownBlock] using e
      omega
  · exact hown.kept (grownBy_setCell' w1 bA v') (.inr (hv1.not_row (by decide) hown).symm)
/-- a store into a map that lay ahead of the loop -/
theorem kpA_map {X Y : World} {n0 bA bM n : Nat} {D : DataW Unit} (hg : X.grownBy Y (some bM)) (hm : X.ownsMap (H := Unit) Try.prog 9 anyE bM n D) (h0 : n0 ≤ bM) (hA : bA ≠ bM) (hAx : bA < X.heap.size) : KpA n0 bA X Y := by
  obtain ⟨es, clock, hb, _⟩ := hm
  have hM := (Array.getElem?_eq_some_iff.1 hb).1
  refine ⟨(Below.refl n0 X).grown hg (by omega) (fun j e => by cases e; exact h0), hg.size, fun k cs t fr hk _ _ => ?_, fun k ⟨m, c, j, h⟩ => ?_⟩
  · refine (hg.block k (Array.getElem?_eq_some_iff.1 hk).1 (fun e => ?_)).trans hk
    cases e
    rw [hb] at hk
    cases hk
  · have hbb : Y.heap[bA]? = X.heap[bA]? := hg.block bA hAx (fun e => by injection e with e; exact hA e)
    exact .inl ⟨m, c, j, by rwa [World.cell?_of_block (w := X) (a := ⟨bA, 0, none⟩) hbb] at h⟩
theorem not_rowAt {W : World} {bA b B : Nat} {t : TypeId} {u v : Value} {l : List Att} (hv : Boxed W bA 24 v) (ho : OwnA W B v l) (hb : Boxed W b t u) (ht : t ≠ 33) : ¬ RowAt W bA b := by
  rintro ⟨n, c, j, h⟩
  rw [hv.cell] at h
  cases h
  rcases ho.2 with ⟨e, _⟩ | ⟨g, cap, cur, e, _, hgb, _⟩
  · cases e
  · cases e
    rw [show W.heap[b]? = _ from hb] at hgb
    injection hgb with hgb
    injection hgb with _ h2 _
    exact ht h2
theorem map_not_row {W : World} {bM B n : Nat} {D : DataW Unit} {v : Value} {l : List Att} (hm : W.ownsMap (H := Unit) Try.prog 9 anyE bM n D) (ho : OwnA W B v l) : some bM ≠ v.ownBlock := by
  obtain ⟨es, clock, hb, _⟩ := hm
  rcases ho.2 with ⟨rfl, _⟩ | ⟨g, cap, cur, rfl, _, hgb, _⟩
  · simp [Value.ownBlock]
  · intro e
    have : bM = g := by simpa [Value.ownBlock] using e
    subst this
    rw [hb] at hgb
    cases hgb
/-! ### how long names are -/
theorem nmL_size {l : List Vl} (h : ∀ v ∈ l, v.2.2.size ≤ maxLen) : (nmL l).size ≤ maxLen := by
  have key : ∀ (l : List Vl) (s : ByteArray), s.size ≤ maxLen → (∀ v ∈ l, v.2.2.size ≤ maxLen) → (l.foldl (fun s v => if v.1 = 7 then v.2.2 else s) s).size ≤ maxLen := by
    intro l
    induction l with
    | nil => exact fun s hs _ => hs
    | cons v r ih =>
      intro s hs h
      rw [List.foldl_cons]
      refine ih _ ?_ (fun x hx => h x (List.mem_cons_of_mem _ hx))
      split
      · exact h v (List.mem_cons_self ..)
      · exact hs
  exact key l _ (by decide) h
theorem docL_nm {e : Int} {fs : List FactP} {a : Att} (h : docL e fs = some a) (hz : ∀ f ∈ fs, f.s.size ≤ maxLen) : a.nm.size ≤ maxLen := by
  unfold docL at h
  split at h
  · cases h
  · cases h
    refine nmL_size fun v hv => ?_
    unfold valsL at hv
    obtain ⟨f, hf, rfl⟩ := List.mem_map.1 hv
    exact hz f (List.mem_filter.1 hf).1
theorem docFrom_nm {all : List FactP} (hz : ∀ f ∈ all, f.s.size ≤ maxLen) : ∀ (l : List FactP) (p : Option Int), ∀ a ∈ docFrom all p l, a.nm.size ≤ maxLen
  | [], _, a, h => by cases h
  | f :: l, p, a, h => by
    rcases List.mem_append.1 (show a ∈ (if p = some f.e then [] else (docL f.e all).toList) ++ docFrom all (some f.e) l from h) with h | h
    · split at h
      · cases h
      · exact docL_nm (Option.mem_toList.1 h) hz
    · exact docFrom_nm hz l _ a h
theorem atts_nm {fs : List FactP} (hz : ∀ f ∈ fs, f.s.size ≤ maxLen) : ∀ a ∈ attsL fs, a.nm.size ≤ maxLen := fun a h => by
  rcases List.mem_append.1 h with h | h
  · exact (built_ok a h).nm
  · exact docFrom_nm hz _ _ a h
theorem atts_len (fs : List FactP) : (attsL fs).length ≤ 7 + fs.length := by
  unfold attsL
  rw [List.length_append]
  have := docFrom_len fs fs none
  simp only [builtL, List.length_cons, List.length_nil]
  omega
end Go.Proofs.Ytoidkhojkekjeaa

/-
  CONTRACT: the program's Of.
-/
namespace Go.Proofs.Ytoidkhojkekjeaa
open Go.RowKit Go.Shelf Go.Maps
attribute [local go_sem] Oper.semAt_some

theorem results_cell_two {fn : Func} {p q : Tmp} {ty ty' : TypeId} (h : fn.results = #[.cell p ty, .cell q ty']) (tmps : Array Value) (P : Program) (w : World) :
    (results fn tmps).run P w = ((asAddr (tmps.getD p undef)).run P w).andThen fun a w₁ => ((loadVar ty a).run P w₁).andThen fun v w₂ => ((asAddr (tmps.getD q undef)).run P w₂).andThen fun a' w₃ => ((loadVar ty' a').run P w₃).andThen fun v' w₄ => .ok (.tuple #[v, v']) w₄ := by
  simp only [results, h]
  simp [Sem.run_bind]
theorem res_two {W : World} {fn : Func} (hfn : fn.results = #[.cell 2 24, .cell 3 25]) {b2 b3 : Nat} {v : Value} {ec : Int} (tmps : Array Value) (h2 : Boxed W b2 24 v) (h3 : Boxed W b3 25 (.int .i64 ec)) (t2 : tmps.getD 2 undef = .pointer (some ⟨b2, 0, none⟩)) (t3 : tmps.getD 3 undef = .pointer (some ⟨b3, 0, none⟩)) :
    (results fn tmps).run Try.prog W = .ok (.tuple #[v, .int .i64 ec]) W := by
  have a0 := h2.cell
  have a1 := h3.cell
  rw [results_cell_two hfn, t2, t3]
  go_simp
set_option maxRecDepth 100000 in
set_option maxHeartbeats 2000000 in
/-- Of, of facts that may not be. -/
theorem of_bad (m : Nat) (A : Option Addr) (c : Nat) (fs : List FactP) (w : World) (hs : FVa w (.slice A fs.length c) fs) (hl : fs.length ≤ 1954687338268) (hz : ∀ f ∈ fs, f.s.size ≤ maxLen ∧ f.l.length ≤ 9223372036854775807) (hmay : mayFs fs = false) :
    CallsIn Fence.wide m Try.prog 8 #[.slice A fs.length c] w (OfR w fs) := by
  obtain ⟨w1, hw1⟩ : ∃ w1, (w.alloc (.cells #[.slice none 0 0] 24)).alloc (.cells #[.int .i64 0] 25) = w1 := ⟨_, rfl⟩
  have HB1 : Hid (Below w.heap.size w w1) := by show Below _ _ _; rw [← hw1]; exact ((Below.refl _ _).alloc (Nat.le_refl _) _).alloc (by simp) _
  have h2 : Boxed w1 w.heap.size 24 (.slice none 0 0) := by rw [← hw1]; exact (Boxed.new _ _ _).alloc _
  have h3 : Boxed w1 (w.heap.size + 1) 25 (.int .i64 0) := by
    rw [← hw1]
    have := Boxed.new (w.alloc (.cells #[.slice none 0 0] 24)) 25 (.int .i64 0)
    rwa [World.size_alloc] at this
  have HC := Lib.hid (checkF_big A c fs w1 (hs.next HB1.out) (by omega) (fun f hf => ⟨(hz f hf).1, by have := (hz f hf).2; omega⟩))
  rw [hmay] at HC
  have HE : Hid (resL fs = [] ∧ attsE fs = 60) := by
    have h60 : attsE fs = 60 := by unfold attsE; rw [hmay]; rfl
    refine ⟨?_, h60⟩
    unfold resL
    rw [h60]
    rfl
  have H2 := Lib.hid h2
  have H3 := Lib.hid h3
  clear hs hl hz hmay h2 h3
  refine callsIn_of_wp_marks Try.func8 rfl trivial ?_ rfl
  simp only [Try.ntmps8, List.size_toArray, List.length_cons, List.length_nil, Nat.reduceAdd, Nat.reduceSub, Array.replicate_succ, Array.replicate_zero, List.push_toArray, List.append_toArray, List.nil_append, List.cons_append]
  gi_wp2_with fail
  clear hw1
  refine ⟨trivial, wide_deep _, ?_⟩
  refine (callsIn_wide.2 HC.out).mono ?_
  rintro e w2 ⟨rfl, hb2⟩
  have HB2 := Lib.hid (HB1.out.trans (hb2.mono HB1.out.size))
  have f2 : Boxed w2 w.heap.size 24 (.slice none 0 0) := (hb2.block _ H2.out.lt).trans H2.out
  have f3 : Boxed w2 (w.heap.size + 1) 25 (.int .i64 0) := (hb2.block _ H3.out.lt).trans H3.out
  have a0 := f2.cell
  have a1 := f3.cell
  have a2 := f2.frozen
  have a3 := f3.frozen
  have F2 := Lib.hid f2
  have F3 := Lib.hid f3
  clear hb2 f2 f3 HC
  gi_wp2_with fail
  have g2 : Boxed ((w2.setCell ⟨w.heap.size, 0, none⟩ (.slice none 0 0)).setCell ⟨w.heap.size + 1, 0, none⟩ (.int .i64 60)) w.heap.size 24 (.slice none 0 0) := (F2.out.set _).other (by omega) _
  have g3 : Boxed ((w2.setCell ⟨w.heap.size, 0, none⟩ (.slice none 0 0)).setCell ⟨w.heap.size + 1, 0, none⟩ (.int .i64 60)) (w.heap.size + 1) 25 (.int .i64 60) := (F3.out.other (by omega) _).set _
  exact ⟨_, res_two rfl _ g2 g3 rfl rfl, ⟨none, 0, by rw [HE.out.1, HE.out.2]; rfl, by rw [HE.out.1]; exact fun h => absurd rfl h⟩, (HB2.out.setCell (p := ⟨w.heap.size, 0, none⟩) (Nat.le_refl _) _).setCell (p := ⟨w.heap.size + 1, 0, none⟩) (Nat.le_succ _) _⟩

set_option maxRecDepth 100000 in
theorem attrs_any (A : Option Addr) (n c : Nat) (w : World) : Calls Try.prog 27 #[.slice A n c] w fun e w' =>
    e = .returned (.func (.func 37) #[] #[.pointer (some ⟨w.heap.size, 0, none⟩)]) ∧ w' = w.alloc (.cells #[.slice A n c] 22) := by
  go_enter Try.func27, Try.ntmps27
  go_wp2
  go_ret
  exact ⟨rfl, rfl⟩
theorem zeroI6 (w : World) : (zeroValue 2).run Try.prog w = .ok (.int .i64 0) w := by kernel_rfl

set_option maxRecDepth 100000 in
set_option maxHeartbeats 4000000 in
/-- Of, of facts that may be. -/
theorem of_good (m : Nat) (hm3 : Hid (9 ≤ m)) (A : Option Addr) (c : Nat) (fs : List FactP) (w : World) (hs : FVa w (.slice A fs.length c) fs) (hl : fs.length ≤ 1954687338268) (hz : ∀ f ∈ fs, f.s.size ≤ maxLen ∧ f.l.length ≤ 9223372036854775807) (hmay : mayFs fs = true) :
    CallsIn Fence.wide m Try.prog 8 #[.slice A fs.length c] w (OfR w fs) := by
  obtain ⟨i0, hi, hz0, hz1, hz2⟩ := info_parts infoA
  have hmm := @run_makeMap Try.prog
  have hmx : 3000000000000 ≤ maxLen := by decide
  obtain ⟨rs, hr⟩ := runsE_any fs.length fs (Nat.le_refl _)
  obtain ⟨T, hT⟩ : ∃ T, attsL fs = T := ⟨_, rfl⟩
  have HTR : Hid (T = builtL ++ rs.filterMap madeR) := by show _ = _; rw [← hT]; exact atts_runs hmay hr
  have HTL : Hid (T.length ≤ 1954687338275) := by show _ ≤ _; rw [← hT]; have := atts_len fs; omega
  have HTN : Hid (∀ a ∈ T, a.nm.size ≤ maxLen) := by show ∀ _, _; rw [← hT]; exact atts_nm fun f hf => (hz f hf).1
  have HRS := Lib.hid hr
  have HE0 : Hid (oneName T → resL fs = T ∧ attsE fs = 0) := fun h => by
    have h60 : attsE fs = 0 := by unfold attsE; rw [hmay, if_pos rfl, hT, if_pos h]
    refine ⟨?_, h60⟩
    unfold resL
    rw [if_pos h60, hT]
  have HE7 : Hid (¬ oneName T → resL fs = [] ∧ attsE fs = 70) := fun h => by
    have h60 : attsE fs = 70 := by unfold attsE; rw [hmay, if_pos rfl, hT, if_neg h]
    refine ⟨?_, h60⟩
    unfold resL
    rw [h60]
    rfl
  have HTS := Lib.hid hT
  obtain ⟨w1, hw1⟩ : ∃ w1, (w.alloc (.cells #[.slice none 0 0] 24)).alloc (.cells #[.int .i64 0] 25) = w1 := ⟨_, rfl⟩
  have HB1 : Hid (Below w.heap.size w w1) := by show Below _ _ _; rw [← hw1]; exact ((Below.refl _ _).alloc (Nat.le_refl _) _).alloc (by simp) _
  have h2 : Boxed w1 w.heap.size 24 (.slice none 0 0) := by rw [← hw1]; exact (Boxed.new _ _ _).alloc _
  have h3 : Boxed w1 (w.heap.size + 1) 25 (.int .i64 0) := by
    rw [← hw1]
    have := Boxed.new (w.alloc (.cells #[.slice none 0 0] 24)) 25 (.int .i64 0)
    rwa [World.size_alloc] at this
  have HC := Lib.hid (checkF_big A c fs w1 (hs.next HB1.out) (by omega) (fun f hf => ⟨(hz f hf).1, by have := (hz f hf).2; omega⟩))
  rw [hmay, if_pos rfl] at HC
  have H2 := Lib.hid h2
  have H3 := Lib.hid h3
  have HS := Lib.hid hs
  clear hs hz hmay h2 h3 hr hT
  refine callsIn_of_wp_marks Try.func8 rfl trivial ?_ rfl
  simp only [Try.ntmps8, List.size_toArray, List.length_cons, List.length_nil, Nat.reduceAdd, Nat.reduceSub, Array.replicate_succ, Array.replicate_zero, List.push_toArray, List.append_toArray, List.nil_append, List.cons_append]
  gi_wp2_with fail
  clear hw1
  refine ⟨trivial, wide_deep _, ?_⟩
  refine (callsIn_wide.2 HC.out).mono ?_
  rintro e w2 ⟨rfl, hb2⟩
  have HB2 := Lib.hid (HB1.out.trans (hb2.mono HB1.out.size))
  have F2 : Hid (Boxed w2 w.heap.size 24 (.slice none 0 0)) := (hb2.block _ H2.out.lt).trans H2.out
  have F3 : Hid (Boxed w2 (w.heap.size + 1) 25 (.int .i64 0)) := (hb2.block _ H3.out.lt).trans H3.out
  clear hb2 HC H2 H3
  gi_wp2_with fail
  refine ⟨trivial, wide_deep _, ?_⟩
  obtain ⟨w3, hw3⟩ : ∃ w3, ((w2.alloc (.cells #[.slice none 0 0] 24)).alloc (.map #[] 0)).alloc (.cells #[.map (some (w2.heap.size + 1))] 57) = w3 := ⟨_, rfl⟩
  have hz3 : w3.heap.size = w2.heap.size + 3 := by rw [← hw3]; simp
  have HB3 : Hid (Below w2.heap.size w2 w3) := by show Below _ _ _; rw [← hw3]; exact (((Below.refl _ _).alloc (Nat.le_refl _) _).alloc (by simp) _).alloc (by simp; omega) _
  have HA3 : Hid (Boxed w3 w2.heap.size 24 (.slice none 0 0)) := by show Boxed _ _ _ _; rw [← hw3]; exact ((Boxed.new _ _ _).alloc _).alloc _
  have HN3 : Hid (Boxed w3 (w2.heap.size + 1 + 1) 57 (.map (some (w2.heap.size + 1)))) := by
    show Boxed _ _ _ _
    rw [← hw3]
    have := Boxed.new ((w2.alloc (.cells #[.slice none 0 0] 24)).alloc (.map #[] 0)) 57 (.map (some (w2.heap.size + 1)))
    rwa [World.size_alloc, World.size_alloc] at this
  have HM3 : Hid (w3.ownsMap (H := Unit) Try.prog 9 anyE (w2.heap.size + 1) 0 (setN [])) := by
    show World.ownsMap _ _ _ _ _ _ _
    rw [← hw3]
    have := World.ownsMap_made (H := Unit) (w2.alloc (.cells #[.slice none 0 0] 24)) Try.prog 9 anyE
    rw [World.size_alloc] at this
    exact this.alloc _
  rw [hw3]
  have HZ3 := Lib.hid hz3
  clear hw3
  refine (callsIn_wide.2 (attrs_any _ _ _ _)).mono ?_
  rintro e w4 ⟨rfl, hw4⟩
  have hz4 : w4.heap.size = w3.heap.size + 1 := by rw [hw4]; simp
  have HB4 : Hid (Below w3.heap.size w3 w4) := by show Below _ _ _; rw [hw4]; exact (Below.refl _ _).alloc (Nat.le_refl _) _
  have hbl : Boxed w4 w3.heap.size 22 (.slice A fs.length c) := by rw [hw4]; exact Boxed.new _ _ _
  clear hw4
  have hB := HB2.out.size
  have HBW : Hid (Below w.heap.size w w4) := (HB2.out.trans (HB3.out.mono hB)).trans (HB4.out.mono (by omega))
  have hbA4 : Boxed w4 w2.heap.size 24 (.slice none 0 0) := (HB4.out.block _ (by omega)).trans HA3.out
  have HMID : Hid (NMid w w4.heap.size w.heap.size (w.heap.size + 1) w2.heap.size (w2.heap.size + 1 + 1) (w2.heap.size + 1) T [] w4) := by
    refine ⟨Nat.le_refl _, HBW.out, ⟨_, hbA4, World.ownsRow_nil _ _ _ _⟩, ?_, ?_, ?_, ?_, ?_⟩
    · exact (HB4.out.block _ (by have := F2.out.lt; omega)).trans ((HB3.out.block _ F2.out.lt).trans F2.out)
    · exact (HB4.out.block _ (by have := F3.out.lt; omega)).trans ((HB3.out.block _ F3.out.lt).trans F3.out)
    · exact (HB4.out.block _ (by omega)).trans HN3.out
    · exact ownsMap_below HM3.out HB4.out (by omega)
    · unfold oneName; exact List.Pairwise.nil
  have HF2 := Lib.hid F2.out.lt
  have HF3 := Lib.hid F3.out.lt
  have HZ4 := Lib.hid hz4
  clear hz3 hz4
  gi_wp2_with fail
  have hz3 := HZ3.out
  have hz4 := HZ4.out
  have hro : Fence.wide.round = none := rfl
  have hf2 := HF2.out
  have hf3 := HF3.out
  refine wpIn_rangeFunc_ownH hro (by have := hm3.out; omega) (gf := 37) (lb := #[.pointer (some ⟨w3.heap.size, 0, none⟩)]) rfl trivial (enters_of Try.func37 (by kernel_rfl) rfl)
    (iter_stops (m - 1) w2.heap.size w3.heap.size A c fs T w w4 rs HBW.out HS.out (by omega) HRS.out HTR.out hbl hbA4 (by omega))
    (fun h k => h.trans k) (fun W lp o o' hl h hc _ => kpA_put (M := w4.heap.size) (by have := HBW.out.size; omega) (by omega) W lp o' hl h hc) (Below.refl _ _) (fun _ => rfl)
    (NMid w w4.heap.size w.heap.size (w.heap.size + 1) w2.heap.size (w2.heap.size + 1 + 1) (w2.heap.size + 1) T) (NStop w w.heap.size (w.heap.size + 1) T) (nMid_own T (by have := HBW.out.size; omega) (by omega) (by omega) (by omega) (by omega) (by omega)) (fun cd => nStop_own T (by have := HBW.out.size; omega) (by omega) (by omega) cd)
    HMID.out
    (fun x a' W => ∃ g, w4.heap.size ≤ g ∧ BxA W g T[x.val] ∧ a' = { tmps := #[.slice A fs.length c, undef, .pointer (some ⟨w.heap.size, 0, none⟩), .pointer (some ⟨w.heap.size + 1, 0, none⟩), .int .i64 0, .pointer (some ⟨w2.heap.size, 0, none⟩), .pointer (some ⟨w2.heap.size + 1 + 1, 0, none⟩), .pointer (some ⟨g, 0, none⟩), undef, undef, .slice A fs.length c, .int .i64 0, .int .i64 0, .bool false, undef, .map (some (w2.heap.size + 1)), .slice A fs.length c, .func (.func 37) #[] #[.pointer (some ⟨w3.heap.size, 0, none⟩)], attV T[x.val], undef, undef, undef, undef, undef, undef, undef, undef, undef, undef, undef, undef, undef, undef, undef, undef, undef, undef], defers := [] })
    (fun x a' _ X Y row ⟨g, hg1, hg2, e⟩ hgr hr => ⟨g, hg1, (hgr.block g (Array.getElem?_eq_some_iff.1 hg2).1 (fun e => by obtain ⟨o, ho, hn⟩ := (hr g e.symm).2; unfold BxA at hg2; rw [hg2] at ho; cases ho; cases hn)).trans hg2, e⟩) ?assign ?body ?done ?stop
  case assign =>
    clear hz3 hz4
    rintro lp pre x W K hM hK
    have HK9 := Lib.hid @hK
    have HM := Lib.hid hM
    clear hK hM
    obtain ⟨d, hd⟩ : ∃ d, T[x.val] = d := ⟨_, rfl⟩
    unfold attV
    simp only [hd]
    have hsz := HM.out.sz
    gi_wp2
    have hw4 := HBW.out.size
    have hz3 := HZ3.out
    have hz4 := HZ4.out
    refine HK9.out _ _ (keepsFrom_below ((Below.refl _ W).alloc (Nat.le_refl _) _)) (kpA_below ((Below.refl _ W).alloc (Nat.le_refl _) _) (by omega) (by omega)) ((nMid_own T (by omega) (by omega) (by omega) (by omega) (by omega) (by omega)).alloc _ HM.out) ⟨W.heap.size, hsz, by rw [hd]; exact bxA_new W d, by rw [hd]; rfl⟩
  case body =>
    clear hz3 hz4
    rintro lp pre x a' W hwl hrec hM ⟨g, hgz, hg, rfl⟩ hlt
    obtain ⟨d, hd⟩ : ∃ d, T[x.val] = d := ⟨_, rfl⟩
    have HD := Lib.hid hd
    have HDN : Hid (d.nm.size ≤ maxLen) := by show _ ≤ _; rw [← hd]; exact HTN.out _ (List.getElem_mem _)
    rw [hd] at hg
    simp only [hd]
    obtain ⟨v, hv, ho⟩ := hM.row
    obtain ⟨L, hL⟩ : ∃ L, preL T pre = L := ⟨_, rfl⟩
    rw [hL] at ho
    have HLL := Lib.hid hL
    have HPL : Hid (L.length = pre.length) := by show _ = _; rw [← hL]; exact preL_len T pre
    have hmp := hM.map
    rw [hL] at hmp
    have HMP := Lib.hid hmp
    have hhas := has_setN (H := Unit) L d
    obtain ⟨tk, htk⟩ : ∃ tk, L.any (fun a => decide (a.nm = d.nm)) = tk := ⟨_, rfl⟩
    rw [htk] at hhas
    have HH : Hid (Maps.has (setN (H := Unit) L) (.string d.nm.data.toList) = tk) := hhas
    have HTK := Lib.hid htk
    have HM := Lib.hid hM
    have HV := Lib.hid hv
    have HO := Lib.hid ho
    have HG := Lib.hid hg
    have HLT := Lib.hid hlt
    have x0 := hg.cell 0
    have x1 := hg.cell 1
    have x2 := hg.cell 2
    have x3 := hg.cell 3
    have x4 := hg.cell 4
    have x5 := hg.cell 5
    have x6 := hg.cell 6
    simp at x0 x1 x2 x3 x4 x5 x6
    have n0 := hM.nb.cell
    clear hd hL hmp hhas htk hM hv ho hg hrec
    cases tk with
    | true =>
      have r0 := HM.out.r2.cell
      have r1 := HM.out.r3.cell
      have r2 := HM.out.r2.frozen
      have r3 := HM.out.r3.frozen
      gi_wp2_with (gi_at_lookup; refine wpListIn_lookup_own_ok _ rfl _ _ 57 rfl 9 2 lawNm Try.underlying57 anyE (zeroI6 _) (.agg []) [] rfl (w2.heap.size + 1) pre.length (setN L) rfl HMP.out _ _ rfl (keyOf_nm HDN.out) ?_; rw [HH.out]; intro v9 ps9 _)
      exact ⟨(keepsFrom_set (p := ⟨w.heap.size, 0, none⟩) HM.out.r2 _).trans (keepsFrom_set (p := ⟨w.heap.size + 1, 0, none⟩) (HM.out.r3.other (by omega) _) _), ⟨(HM.out.low.setCell (p := ⟨w.heap.size, 0, none⟩) (Nat.le_refl _) _).setCell (p := ⟨w.heap.size + 1, 0, none⟩) (Nat.le_succ _) _, (HM.out.r2.set _).other (by omega) _, (HM.out.r3.other (by omega) _).set _, rfl, ⟨pre, x, rfl, by rw [HLL.out, HD.out]; exact HTK.out⟩⟩⟩
    | false =>
      have HGL : Hid (g < W.heap.size) := (Array.getElem?_eq_some_iff.1 HG.out).1
      have HAL := Lib.hid HV.out.lt
      gi_wp2_with (first
        | (gi_at_lookup; refine wpListIn_lookup_own_ok _ rfl _ _ 57 rfl 9 2 lawNm Try.underlying57 anyE (zeroI6 _) (.agg []) [] rfl (w2.heap.size + 1) pre.length (setN L) rfl HMP.out _ _ rfl (keyOf_nm HDN.out) ?_; rw [HH.out]; intro v9 ps9 _)
        | (gi_at_mapUpdate; refine wpListIn_mapUpdate_own _ rfl _ _ _ 57 rfl 9 2 lawNm Try.underlying57 anyE (w2.heap.size + 1) pre.length (setN L) rfl HMP.out (by have := HLT.out; have := HTL.out; omega) _ _ _ rfl rfl (keyOf_nm HDN.out) (.agg []) [] (anyE_mk _) ?_; intro w5 hown5 hgrow5; have HW5 := Lib.hid hown5; have HR5 := Lib.hid hgrow5; have HK5 : Hid (KpA w.heap.size w2.heap.size W w5) := kpA_map hgrow5 HMP.out (by have := HB2.out.size; omega) (by omega) HAL.out; have HG5 : Hid (BxA w5 g d) := (hgrow5.block g HGL.out (fun e => by injection e with e; have := HZ3.out; have := HZ4.out; omega)).trans HG.out; have HV5 : Hid (Boxed w5 w2.heap.size 24 v) := HV.out.kept hgrow5 (fun e => by injection e with e; omega); have HO5 : Hid (OwnA w5 w.heap.size v L) := HO.out.kept hgrow5 (fun r e => by cases e; obtain ⟨es, clock, hb, _⟩ := HMP.out; exact ⟨_, hb, rfl⟩); clear hown5 hgrow5 x0 x1 x2 x3 x4 x5 x6 n0; have x0 := HG5.out.cell 0; have x1 := HG5.out.cell 1; have x2 := HG5.out.cell 2; have x3 := HG5.out.cell 3; have x4 := HG5.out.cell 4; have x5 := HG5.out.cell 5; have x6 := HG5.out.cell 6; simp at x0 x1 x2 x3 x4 x5 x6; have v0 := HV5.out.cell)
        | (gi_at_builtin; go_loud (refine wpListIn_append_own_at _ rfl _ _ 24 rfl w.heap.size 33 i0 (.agg #[.int .i64 0, .string ⟨#[]⟩, .int .i64 0, .bool false, .int .i64 0, .bool false, .bool false]) 7 56 Try.underlying24 hi hz0 hz1 hz2 rfl (by decide) v L.length (L.flatMap cellsA) rfl (World.ownsRow.alloc HO5.out _) ⟨w5.heap.size, 0, none⟩ 1 1 (cellsA d) rfl rfl (litA w5 d) (cellsA_one _) (by have := HPL.out; have := HLT.out; have := HTL.out; omega) (by have := HPL.out; have := HLT.out; have := HTL.out; omega) (by have := HB2.out.size; have := HV5.out.lt; simp; omega) ?_); intro v6 w6 hown6 hgrow6 _ hat6; obtain ⟨g', cap', rfl⟩ := ownsRow_succ hown6; have hst := att_step HV5.out HO5.out (by have := HB2.out.size; have := HV5.out.lt; omega) HB2.out.size hgrow6 hat6 hown6; have HST := Lib.hid hst; have HR6 := Lib.hid hgrow6; clear hown6 hat6 hgrow6; have y0 := hst.1.cell; have y1 := hst.1.frozen; clear hst))
      obtain ⟨_, hb6, hko, hkp, hrw⟩ := HST.out
      have hkw := HK5.out.trans hkp
      have hm6 : some (w2.heap.size + 1) ≠ v.ownBlock := map_not_row HMP.out HO.out
      have hpx : preL T (pre ++ [x]) = L ++ [d] := by rw [preL_snoc, HLL.out, HD.out]
      refine ⟨(KeepsFrom.of_grownBy HR5.out (fun j e => by injection e with e; have := HZ3.out; have := HZ4.out; omega)).trans (hko.from _), hkw, ?_⟩
      refine ⟨Nat.le_trans HM.out.sz hkw.size, HM.out.low.trans hkw.low, ⟨_, hb6, ?_⟩, ?_, ?_, ?_, ?_, ?_⟩
      · rw [hpx]
        show World.ownsRow _ _ _ _ _ _ _
        rw [List.length_append, List.flatMap_append]
        simpa using hrw
      · exact hkw.cells _ _ _ _ HM.out.r2 (by omega) (not_rowAt HV.out HO.out HM.out.r2 (by decide))
      · exact hkw.cells _ _ _ _ HM.out.r3 (by omega) (not_rowAt HV.out HO.out HM.out.r3 (by decide))
      · exact hkw.cells _ _ _ _ HM.out.nb (by omega) (not_rowAt HV.out HO.out HM.out.nb (by decide))
      · rw [hpx, setN_snoc, List.length_append]
        exact ((HW5.out.alloc _).kept HR6.out hm6).setCell (a := ⟨w2.heap.size, 0, none⟩) (by show _ ≠ w2.heap.size; omega) _
      · rw [hpx]
        exact oneName_snoc (by rw [← HLL.out]; exact HM.out.one) HTK.out
  case done =>
    rintro D ys W hD rfl hM hK
    obtain ⟨v, hv, ho⟩ := hM.row
    rw [preL_all] at ho
    have hon := hM.one
    rw [preL_all] at hon
    have HM := Lib.hid hM
    have HO := Lib.hid ho
    have HON := Lib.hid hon
    have HKK := Lib.hid hK
    have a0 := hv.cell
    have r0 := hM.r2.cell
    have r1 := hM.r3.cell
    have r2 := hM.r2.frozen
    have r3 := hM.r3.frozen
    have HV := Lib.hid hv
    clear hM hv hon hK hz3 hz4
    obtain ⟨A1, c1, rfl, _⟩ := ho.form
    clear ho
    gi_wp2
    have hs2 : Boxed (W.setCell ⟨w.heap.size, 0, none⟩ (.slice A1 T.length c1)) (w.heap.size + 1) 25 (.int .i64 0) := HM.out.r3.other (by omega) _
    have ho1 : OwnA (W.setCell ⟨w.heap.size, 0, none⟩ (.slice A1 T.length c1)) w.heap.size (.slice A1 T.length c1) T := World.ownsRow.kept HO.out (grownBy_setCell' W w.heap.size _) (.inr (HM.out.r2.not_row (by decide) HO.out).symm)
    have ho2 : OwnA ((W.setCell ⟨w.heap.size, 0, none⟩ (.slice A1 T.length c1)).setCell ⟨w.heap.size + 1, 0, none⟩ (.int .i64 0)) w.heap.size (.slice A1 T.length c1) T := World.ownsRow.kept ho1 (grownBy_setCell' _ _ _) (.inr (hs2.not_row (by decide) ho1).symm)
    have g2 : Boxed ((W.setCell ⟨w.heap.size, 0, none⟩ (.slice A1 T.length c1)).setCell ⟨w.heap.size + 1, 0, none⟩ (.int .i64 0)) w.heap.size 24 (.slice A1 T.length c1) := (HM.out.r2.set _).other (by omega) _
    have g3 : Boxed ((W.setCell ⟨w.heap.size, 0, none⟩ (.slice A1 T.length c1)).setCell ⟨w.heap.size + 1, 0, none⟩ (.int .i64 0)) (w.heap.size + 1) 25 (.int .i64 0) := hs2.set _
    have hlow : Below w.heap.size w ((W.setCell ⟨w.heap.size, 0, none⟩ (.slice A1 T.length c1)).setCell ⟨w.heap.size + 1, 0, none⟩ (.int .i64 0)) := (HM.out.low.setCell (p := ⟨w.heap.size, 0, none⟩) (Nat.le_refl _) _).setCell (p := ⟨w.heap.size + 1, 0, none⟩) (Nat.le_succ _) _
    have hKn : ((W.setCell ⟨w.heap.size, 0, none⟩ (.slice A1 T.length c1)).setCell ⟨w.heap.size + 1, 0, none⟩ (.int .i64 0)).heap[D]? = some (.deferred (some [])) := (Below.heap_setCell _ _ _ D (by show D ≠ w.heap.size + 1; have := HZ3.out; have := HZ4.out; omega)).trans ((Below.heap_setCell _ _ _ D (by show D ≠ w.heap.size; have := HZ3.out; have := HZ4.out; omega)).trans HKK.out)
    obtain ⟨Wf, hWf⟩ : ∃ Wf, (W.setCell ⟨w.heap.size, 0, none⟩ (.slice A1 T.length c1)).setCell ⟨w.heap.size + 1, 0, none⟩ (.int .i64 0) = Wf := ⟨_, rfl⟩
    rw [hWf] at ho2 g2 g3 hlow hKn ⊢
    have hbD : w4.heap.size ≤ D := hD
    have q2 : Boxed (Wf.putObj D (.deferred none)) w.heap.size 24 (.slice A1 T.length c1) := g2.kept (grownBy_putObj' Wf D _) (by have := HZ3.out; have := HZ4.out; simp; omega)
    have q3 : Boxed (Wf.putObj D (.deferred none)) (w.heap.size + 1) 25 (.int .i64 0) := g3.kept (grownBy_putObj' Wf D _) (by have := HZ3.out; have := HZ4.out; simp; omega)
    have hoF := ho2.kept (grownBy_putObj' Wf D (.deferred none)) (fun r e => by cases e; exact ⟨_, hKn, rfl⟩)
    obtain ⟨A2, c2, e2, hsF, _⟩ := hoF.form
    have hEE := HE0.out HON.out
    refine ⟨by simp, .inl ⟨_, _, rfl, run_takeDeferred hKn, ?_⟩⟩
    exact ⟨_, res_two rfl _ q2 q3 rfl rfl, ⟨A2, c2, by rw [hEE.1, hEE.2, ← e2], by rw [hEE.1]; exact hsF⟩, hlow.trans (belowK_b (w := w4) (n₀ := w.heap.size) (by have := HBW.out.size; omega) Wf D _ (.deferred none) hD hKn rfl rfl)⟩
  case stop =>
    rintro D cd pre W hD hsp hST hK
    obtain ⟨h1, h2, h3, rfl, p, x, rfl, htw⟩ := hST
    have g2 : Boxed (W.putObj D (.deferred none)) w.heap.size 24 (.slice none 0 0) := h2.kept (grownBy_putObj' W D _) (by simp; omega)
    have g3 : Boxed (W.putObj D (.deferred none)) (w.heap.size + 1) 25 (.int .i64 70) := h3.kept (grownBy_putObj' W D _) (by simp; omega)
    have HG2 := Lib.hid g2
    have HG3 := Lib.hid g3
    have HE := Lib.hid (h1.trans (belowK_b (w := w4) (n₀ := w.heap.size) (by omega) W D _ (.deferred none) hD hK rfl rfl))
    have HNO : Hid (¬ oneName T) := fun h => by
      obtain ⟨r, hr⟩ := preL_pre hsp
      rw [preL_snoc, List.append_assoc] at hr
      rw [hr] at h
      exact oneName_two htw h
    have HEE := Lib.hid (HE7.out HNO.out)
    clear h1 h2 h3 g2 g3 htw hsp
    gi_wp2
    refine ⟨by simp, .inl ⟨_, _, rfl, run_takeDeferred hK, ?_⟩⟩
    exact ⟨_, res_two rfl _ HG2.out HG3.out rfl rfl, ⟨none, 0, by rw [HEE.out.1, HEE.out.2]; rfl, by rw [HEE.out.1]; exact fun h => absurd rfl h⟩, HE.out⟩
end Go.Proofs.Ytoidkhojkekjeaa
