import Derived.Deep.LoopGhost
import Derived.Lib.Hide
import Derived.Maps.AppendAt
import Derived.Test.YtlmihlepaoifiaaJAValR
import Derived.RangeFuncNested
import Derived.Test.YtlmihlepaoifiaaJAMakesL
import Derived.Test.YtlmihlepaoifiaaJAFCut
import Derived.Test.YtlmihlepaoifiaaJAMade
import Derived.Test.YtlmihlepaoifiaaJFRunG
/-
  CONTRACT: the program's Alter: a set of what stays, that the call makes.
-/
namespace Go.Proofs.Ytlmihlepaoifiaa
open Go.RowKit Go.Maps

theorem ownsMap_below {H : Type} {P : Program} {k : TypeId} {R : Value → Option (DataW H × List MemPlace)} {w w' : World} {b n B : Nat} {D : DataW H} (h : w.ownsMap P k R b n D) (hb : Below B w w') (hlt : b < B) : w'.ownsMap P k R b n D := by
  obtain ⟨es, clock, h1, r⟩ := h
  exact ⟨es, clock, (hb.block b hlt).trans h1, r⟩

set_option maxRecDepth 100000 in
set_option maxHeartbeats 4000000 in
theorem alter_any (A A' : Option Addr) (c c' : Nat) (l r : List Att) (w : World) (hs : SlA w w.heap.size A l) (hs' : SlA w w.heap.size A' r) (hl : l.length ≤ 1000) (hr : r.length ≤ 1000) (ok : ∀ a ∈ l, AttOk a) (ok' : ∀ a ∈ r, AttOk a) :
    Calls Try.prog 11 #[.slice A l.length c, .slice A' r.length c'] w fun e w' => e = .returned (.int .i64 (altN l r)) ∧ Below w.heap.size w w' := by
  have hmm := @run_makeMap Try.prog
  have HS := Lib.hid hs
  have HS' := Lib.hid hs'
  have HO := Lib.hid ok
  have HO' := Lib.hid ok'
  clear hs hs' ok ok'
  go_enter Try.func11, Try.ntmps11
  go_wp2
  go_loopg [15] r.length (fun g i wr => ∃ k : Nat, i = .int .i64 k ∧ k + g = r.length ∧ Hid (wr.ownsMap Try.prog 59 unitElem w.heap.size k (setA (H := Unit) (r.take k))) ∧ Hid (Below w.heap.size w wr) ∧ w.heap.size + 1 ≤ wr.heap.size)
  case atStart => exact ⟨0, rfl, by omega, by rw [List.take_zero]; exact World.ownsMap_made _ _ _ _, (Below.refl _ _).alloc (Nat.le_refl _) _, by simp⟩
  case round =>
    obtain ⟨k, rfl, hk, HM, HB, hsz⟩ := hrel
    cases gk with
    | zero =>
      have hki : ¬ (k : Int) < (r.length : Int) := by omega
      have HM2 : Hid (wr.ownsMap Try.prog 59 unitElem w.heap.size k (setA (H := Unit) r)) := by
        have := HM.out
        rw [List.take_of_length_le (by omega)] at this
        exact this
      clear HM
      go_wp2
      go_loopg [26] l.length (fun g i w2 => ∃ j : Nat, i = .int .i64 j ∧ j + g = l.length ∧ Hid (altB (l.drop j) r = altB l r) ∧ Hid (w2.ownsMap Try.prog 59 unitElem w.heap.size k (setA (H := Unit) r)) ∧ Hid (Below w.heap.size w w2) ∧ w.heap.size + 1 ≤ w2.heap.size)
      case atStart => exact ⟨0, rfl, by omega, by rw [List.drop_zero]; rfl, HM2, HB, hsz⟩
      case round =>
        obtain ⟨j, rfl, hj, HJ, HM3, HB3, hsz3⟩ := hrel
        cases gk with
        | zero =>
          have hji : ¬ (j : Int) < (l.length : Int) := by omega
          have HE : Hid (altN l r = 0) := by
            show _ = _
            have := HJ.out
            rw [List.drop_eq_nil_of_le (by omega)] at this
            unfold altN
            rw [← this]
            rfl
          go_wp2
          go_ret
          exact ⟨by rw [HE.out]; rfl, HB3.out⟩
        | succ g =>
          have hji : (j : Int) < (l.length : Int) := by omega
          have hjn : j < l.length := by omega
          obtain ⟨b, o, rfl, hbl, hp⟩ := (HS.out.next HB3.out (Nat.le_refl _)).at_ hjn
          have hd : altB (l.drop j) r = ((r.any fun a => sameA a l[j]) && altB (l.drop (j + 1)) r) := by rw [List.drop_eq_getElem_cons hjn]; rfl
          have hoy := HO.out _ (List.getElem_mem hjn)
          obtain ⟨y, hy⟩ : ∃ y, l[j] = y := ⟨_, rfl⟩
          rw [hy] at hp hd hoy
          have hha := has_setA (H := Unit) r y HO'.out hoy
          have hky := keyOf_att hoy
          have HD := Lib.hid hd
          have HH := Lib.hid hha
          have HK := Lib.hid hky
          have y0 := hp.c0
          have y1 := hp.c1
          have y2 := hp.c2
          have y3 := hp.c3
          have y4 := hp.c4
          have y5 := hp.c5
          have y6 := hp.c6
          clear hp hy hd hha hky hoy
          go_wp2_with (first
            | (go_at_call 18; refine (stays_any y _).mono ?_; rintro e w5 ⟨rfl, hb5⟩; have HB5 := Lib.hid hb5; have HM5 := Lib.hid (ownsMap_below (HM3.out.alloc _) hb5 (by simp; omega)); clear hb5)
            | (at_lookup; refine wpList_lookup_own_unit _ rfl _ _ 56 rfl 59 57 lawSt Try.underlying56 (zeroSt _) w.heap.size k _ rfl HM5.out _ _ rfl HK.out ?_)
            | go_in)
          · have ht : (!Maps.has (setA (H := Unit) r) (keyA y)) = true := by assumption
            have HE : altN l r = 77 := by
              rw [HH.out] at ht
              simp only [Bool.not_eq_true'] at ht
              unfold altN
              rw [← HJ.out, HD.out, ht]
              rfl
            go_ret
            have hbb := (HB3.out.alloc HB3.out.size _).trans (HB5.out.mono (by simp; omega))
            exact ⟨by rw [HE]; rfl, hbb.alloc hbb.size _⟩
          · have ht : (!Maps.has (setA (H := Unit) r) (keyA y)) = false := by assumption
            have HN : altB (l.drop (j + 1)) r = altB l r := by
              rw [HH.out] at ht
              simp only [Bool.not_eq_false'] at ht
              rw [← HJ.out, HD.out, ht, Bool.true_and]
            have s5 := HB5.out.size
            simp at s5
            go_roundg g
            case measure => omega
            case rel =>
              have hbb := (HB3.out.alloc HB3.out.size _).trans (HB5.out.mono (by simp; omega))
              exact ⟨j + 1, by go_num, by omega, HN, HM5.out.alloc _, hbb.alloc hbb.size _, by simp; omega⟩
    | succ g =>
      have hki : (k : Int) < (r.length : Int) := by omega
      have hkn : k < r.length := by omega
      obtain ⟨b, o, rfl, hbl, hp⟩ := (HS'.out.next HB.out (Nat.le_refl _)).at_ hkn
      have hse : setA (H := Unit) (r.take (k + 1)) = (setA (r.take k)).put (keyA r[k]) (.agg []) := by
        rw [← setA_snoc, List.take_add_one, List.getElem?_eq_getElem hkn]
        rfl
      have hoy := HO'.out _ (List.getElem_mem hkn)
      obtain ⟨y, hy⟩ : ∃ y, r[k] = y := ⟨_, rfl⟩
      rw [hy] at hp hse hoy
      have hky := keyOf_att hoy
      have HE := Lib.hid hse
      have HK := Lib.hid hky
      have y0 := hp.c0
      have y1 := hp.c1
      have y2 := hp.c2
      have y3 := hp.c3
      have y4 := hp.c4
      have y5 := hp.c5
      have y6 := hp.c6
      clear hp hy hse hky hoy
      go_wp2_with (first
        | (go_at_call 18; refine (stays_any y _).mono ?_; rintro e w5 ⟨rfl, hb5⟩; have HB5 := Lib.hid hb5; have HM5 := Lib.hid (ownsMap_below (HM.out.alloc _) hb5 (by simp; omega)); clear hb5)
        | (at_mapUpdate; refine wpList_mapUpdate_own _ rfl _ _ _ 56 rfl 59 57 lawSt Try.underlying56 (unitElem (H := Unit)) w.heap.size k _ rfl HM5.out (by unfold maxLen; omega) _ _ _ rfl rfl HK.out _ [] unitElem_mk ?_; intro w1 hown1 hgrow1)
        | go_in)
      go_roundg g
      case measure => omega
      case rel =>
        have s5 := HB5.out.size
        have s1 := hgrow1.size
        simp at s5 s1
        refine ⟨k + 1, by go_num, by omega, by rw [HE.out]; exact hown1, ?_, by omega⟩
        exact (((HB.out.alloc HB.out.size _).trans (HB5.out.mono (by simp; omega))).grown hgrow1 (by omega) (fun j hj => by cases hj; exact Nat.le_refl _))
end Go.Proofs.Ytlmihlepaoifiaa

/-
  FRAMES: what a round over an iterator keeps, where the round appends to a row of the iterator's own type; names in a map.
-/
namespace Go.Proofs.Ytlmihlepaoifiaa
open Go.RowKit Go.Shelf Go.Maps

/-- the row that the caller's box names lies in block k -/
def RowAt (X : World) (bA k : Nat) : Prop := ∃ n c j, X.cell? ⟨bA, 0, none⟩ = some (.slice (some ⟨k, j, none⟩) n c)
/-- what a round keeps: what lay below n0; and of cells, all but the caller's box and the row that it names -/
structure KpA (n0 bA : Nat) (X Y : World) : Prop where
  low : Below n0 X Y
  size : X.heap.size ≤ Y.heap.size
  cells : ∀ k cs t fr, X.heap[k]? = some (.cells cs t fr) → k ≠ bA → ¬ RowAt X bA k → Y.heap[k]? = some (.cells cs t fr)
  row : ∀ k, RowAt Y bA k → RowAt X bA k ∨ X.heap.size ≤ k
theorem KpA.refl (n0 bA : Nat) (X : World) : KpA n0 bA X X := ⟨Below.refl _ _, Nat.le_refl _, fun _ _ _ _ h _ _ => h, fun _ h => .inl h⟩
theorem KpA.trans {n0 bA : Nat} {A B C : World} (h : KpA n0 bA A B) (k : KpA n0 bA B C) : KpA n0 bA A C where
  low := h.low.trans k.low
  size := Nat.le_trans h.size k.size
  cells := fun i cs t fr hi hn hr => by
    refine k.cells i cs t fr (h.cells i cs t fr hi hn hr) hn (fun hb => ?_)
    rcases h.row i hb with h1 | h1
    · exact hr h1
    · have := (Array.getElem?_eq_some_iff.1 hi).1
      omega
  row := fun i hc => by
    rcases k.row i hc with h1 | h1
    · exact h.row i h1
    · exact .inr (Nat.le_trans h.size h1)
theorem kpA_below {n0 bA : Nat} {X Y : World} (hb : Below X.heap.size X Y) (h0 : n0 ≤ X.heap.size) (hA : bA < X.heap.size) : KpA n0 bA X Y where
  low := hb.mono h0
  size := hb.size
  cells := fun k _ _ _ hk _ _ => (hb.block k (Array.getElem?_eq_some_iff.1 hk).1).trans hk
  row := fun _ ⟨n, c, j, h⟩ => .inl ⟨n, c, j, (hb.cell (p := ⟨bA, 0, none⟩) hA).symm.trans h⟩
theorem kpA_put {n0 bA M : Nat} (h0 : n0 ≤ M) (hA : bA < M) (W : World) (l : Nat) (o' : Obj) {o : Obj} (hl : M ≤ l) (h : W.heap[l]? = some o) (hc : o.isCells = false) : KpA n0 bA W (W.putObj l o') where
  low := (Below.refl n0 W).grown (grownBy_putObj' W l o') (by have := (Array.getElem?_eq_some_iff.1 h).1; omega) (fun k e => by cases e; omega)
  size := by simp
  cells := fun k cs t fr hk _ _ => by
    by_cases e : k = l
    · subst e
      rw [h] at hk
      cases hk
      cases hc
    · exact (World.putObj_heap_other e).trans hk
  row := fun k ⟨n, c, j, h9⟩ => .inl ⟨n, c, j, by
    have hb : (W.putObj l o').heap[bA]? = W.heap[bA]? := World.putObj_heap_other (by omega)
    rwa [World.cell?_of_block (w := W) (a := ⟨bA, 0, none⟩) hb] at h9⟩
/-- an attribute lies in no box of one cell -/
theorem AtAt.not_box {X : World} {b o bA : Nat} {t : TypeId} {v : Value} {a : Att} (h : AtAt X b o a) (hb : Boxed X bA t v) : b ≠ bA := fun e => by
  subst e
  have h1 := h.c1
  simp only [World.cell?, show X.heap[b]? = _ from hb] at h1
  simp at h1
theorem cell_block {X : World} {b i : Nat} {v : Value} (h : X.cell? ⟨b, i, none⟩ = some v) : ∃ cs t fr, X.heap[b]? = some (.cells cs t fr) := by
  unfold World.cell? at h
  split at h
  · rename_i cs t fr e
    exact ⟨cs, t, fr, e⟩
  · cases h
theorem row_nil {X : World} {bA : Nat} {t : TypeId} (hb : Boxed X bA t (.slice none 0 0)) (k : Nat) : ¬ RowAt X bA k := fun ⟨n, c, j, h⟩ => by
  rw [hb.cell] at h
  cases h
/-- what is read of attributes that lie beside the caller's -/
theorem KpA.att {n0 bA : Nat} {X Y : World} {t : TypeId} {b o : Nat} {a : Att} (h : KpA n0 bA X Y) (hb : Boxed X bA t (.slice none 0 0)) (ha : AtAt X b o a) : AtAt Y b o a := fun i hi => by
  obtain ⟨cs, t', fr, hc⟩ := cell_block ha.c0
  have h1 := h.cells b cs t' fr hc (ha.not_box hb) (row_nil hb b)
  rw [World.cell?_of_block (w := X) (a := ⟨b, o + i, none⟩) (show Y.heap[b]? = X.heap[b]? by rw [h1, hc])]
  exact ha i hi
theorem KpA.box {n0 bA : Nat} {X Y : World} {t t' : TypeId} {b : Nat} {v : Value} (h : KpA n0 bA X Y) (hb : Boxed X bA t (.slice none 0 0)) (ha : Boxed X b t' v) (hne : b ≠ bA) : Boxed Y b t' v := h.cells b _ _ _ ha hne (row_nil hb b)

/-! ### names in a map -/
def nmK (a : Att) : Lit := .string a.nm.data.toList
def anyE {H : Type} : Value → Option (DataW H × List MemPlace) := fun _ => some (.agg [], [])
theorem anyE_mk {H : Type} (v : Value) : anyE (H := H) v = some (.agg [], []) := rfl
theorem lawNm : Keyed Try.prog 9 := string_keyed Try.underlying9
theorem keyOf_nm {s : ByteArray} (h : s.size ≤ maxLen) : keyOf Try.prog 9 (.string s) = some (.string s.data.toList) := by
  unfold keyOf
  rw [Try.underlying9]
  simp only
  unfold mapKey
  rw [Try.underlying9]
  simp [h]
def setN {H : Type} (l : List Att) : DataW H := setOf (.agg []) (l.map nmK)
theorem setN_snoc {H : Type} (l : List Att) (x : Att) : setN (H := H) (l ++ [x]) = (setN l).put (nmK x) (.agg []) := by
  unfold setN
  rw [List.map_append, List.map_singleton, setOf_snoc]
theorem has_setN {H : Type} (l : List Att) (x : Att) : Maps.has (setN (H := H) l) (nmK x) = l.any (fun a => decide (a.nm = x.nm)) := by
  unfold setN
  rw [has_setOf _ _ _ (fun y hy => by obtain ⟨_, _, rfl⟩ := List.mem_map.1 hy; trivial), List.any_map]
  induction l with
  | nil => rfl
  | cons a r ih =>
    rw [List.any_cons, List.any_cons, ih]
    congr 1
    show (a.nm.data.toList == x.nm.data.toList) = _
    by_cases e : a.nm = x.nm
    · simp [e]
    · rw [decide_eq_false e, beq_eq_false_iff_ne]
      exact fun h => e (ByteArray.ext (Array.toList_inj.1 h))
/-- no two of the first names are one -/
theorem oneName_snoc {l : List Att} {x : Att} (h : oneName l) (hx : l.any (fun a => decide (a.nm = x.nm)) = false) : oneName (l ++ [x]) := by
  unfold oneName at h ⊢
  rw [List.map_append, List.nodup_append]
  refine ⟨h, by simp, fun a ha b hb e => ?_⟩
  obtain ⟨y, hy, rfl⟩ := List.mem_map.1 ha
  simp at hb
  rw [List.any_eq_false] at hx
  have := hx y hy
  simp at this
  exact this (e.trans hb)
theorem oneName_two {l r : List Att} {x : Att} (hx : l.any (fun a => decide (a.nm = x.nm)) = true) : ¬ oneName (l ++ x :: r) := fun h => by
  unfold oneName at h
  rw [List.map_append, List.nodup_append] at h
  obtain ⟨y, hy, hd⟩ := List.any_eq_true.1 hx
  simp at hd
  exact h.2.2 _ (List.mem_map.2 ⟨y, hy, rfl⟩) _ (by simp) hd
/-- the attributes of facts, run by run -/
theorem atts_runs {fs : List FactP} {rs : List (List FactP)} (h : mayFs fs = true) (hr : RunsE fs rs) : attsL fs = builtL ++ rs.filterMap madeR := by
  unfold attsL
  rw [docFrom_may h hr]
end Go.Proofs.Ytlmihlepaoifiaa

/-
  CONTRACT: the iterator over facts' attributes.
-/
namespace Go.Proofs.Ytlmihlepaoifiaa
open Go.RowKit Go.Shelf
attribute [local go_sem] Oper.semAt_some

/-- One round of the loop that is handed attributes. -/
def HandsA (T : List Att) (n0 bA lp : Nat) (J Jx : List (Fin T.length) → World → Prop) : Prop :=
  ∀ m pre (x : Fin T.length) W, J pre W → pre.length < T.length → YieldAt Fence.wide m Try.prog lp #[attV T[x.val]] W fun e W' =>
    (e = .returned (.bool true) ∧ J (pre ++ [x]) W' ∧ KpA n0 bA W W') ∨ (e = .returned (.bool false) ∧ Jx (pre ++ [x]) W')
/-- the facts that are left: a slice that reads as them, their cut, what is still to come -/
structure RestF (w0 : World) (T : List Att) (x : Value) (gs : List FactP) (rs : List (List FactP)) (q : Nat) : Prop where
  f : FVa w0 x gs
  r : RunsE gs rs
  t : T.drop q = rs.filterMap madeR
  q : q ≤ T.length
  l : gs.length ≤ 1954687338268
theorem RestF.end {w0 : World} {T : List Att} {x : Value} {rs : List (List FactP)} {q : Nat} (h : RestF w0 T x [] rs q) : q = T.length := by
  have hr := h.r
  have ht := h.t
  have hq := h.q
  cases hr with
  | nil => 
    have := congrArg List.length ht
    simp at this
    omega
  | cons h1 _ =>
    have h2 := h1.pos
    have h3 := h1.le
    simp at h3
    omega
theorem oneAt_one {fs : List FactP} {n m : Nat} (h : OneAt fs n) (k : OneAt fs m) : n = m := by
  have hh : ∀ {n m : Nat}, OneAt fs n → OneAt fs m → ¬ n < m := fun {n m} h k hlt => by
    have h1 : n < fs.length := Nat.lt_of_lt_of_le hlt k.le
    have h0 : 0 < fs.length := by have := h.pos; omega
    exact h.next _ _ (List.getElem?_eq_getElem h1) (List.getElem?_eq_getElem h0) (k.same n _ _ hlt (List.getElem?_eq_getElem h1) (List.getElem?_eq_getElem h0))
  have := hh h k
  have := hh k h
  omega
theorem RestF.step {w0 : World} {T : List Att} {A : Option Addr} {c : Nat} {gs : List FactP} {rs : List (List FactP)} {q k : Nat} (h : RestF w0 T (.slice A gs.length c) gs rs q) (hk : OneAt gs k) :
    (madeR (gs.take k) = none → ∃ rs', RestF w0 T (.slice (cutFa A c k) (gs.length - k) (c - k)) (gs.drop k) rs' q) ∧ (∀ y, madeR (gs.take k) = some y → ∃ hq : q < T.length, T[q] = y ∧ ∃ rs', RestF w0 T (.slice (cutFa A c k) (gs.length - k) (c - k)) (gs.drop k) rs' (q + 1)) := by
  have hr := h.r
  have ht := h.t
  have hf := FVa.drop h.f k hk.le
  rw [List.length_drop] at hf
  have hl := h.l
  cases hr with
  | nil =>
    have h2 := hk.pos
    have h3 := hk.le
    simp at h3
    omega
  | @cons _ n rs h1 h2 =>
    obtain rfl := oneAt_one h1 hk
    rw [List.filterMap_cons] at ht
    refine ⟨fun hn => ?_, fun y hy => ?_⟩
    · rw [hn] at ht
      exact ⟨rs, hf, h2, ht, h.q, by rw [List.length_drop]; omega⟩
    · rw [hy] at ht
      simp only at ht
      have hq : q < T.length := by
        rcases Nat.lt_or_ge q T.length with h3 | h3
        · exact h3
        · rw [List.drop_of_length_le h3] at ht
          cases ht
      rw [List.drop_eq_getElem_cons hq] at ht
      injection ht with h3 h4
      exact ⟨hq, h3, rs, hf, h2, h4, hq, by rw [List.length_drop]; omega⟩
def lenS : Value → Nat
  | .slice _ n _ => n
  | _ => 0

set_option maxRecDepth 100000 in
set_option maxHeartbeats 4000000 in
theorem iter_in (lp bA Bl C : Nat) (A : Option Addr) (c : Nat) (fs : List FactP) (T : List Att) (w0 : World) (rs : List (List FactP)) (J Jx : List (Fin T.length) → World → Prop) (hA : AbidesFrom C J) (hY : HandsA T w0.heap.size bA lp J Jx) (n : Nat)
    (W : World) (hB : Below w0.heap.size w0 W) (hs : FVa w0 (.slice A fs.length c) fs) (hl : fs.length ≤ 1954687338268) (hR : RunsE fs rs) (hT : T = builtL ++ rs.filterMap madeR)
    (hb : Boxed W Bl 24 (.slice A fs.length c)) (hbA : Boxed W bA 35 (.slice none 0 0)) (hne : Bl ≠ bA) (hJ : J [] W) :
    CallsIn Fence.wide n Try.prog 44 #[.func (.yield lp) #[] #[], .pointer (some ⟨Bl, 0, none⟩)] W fun e W' =>
      (∃ v, e = .returned v) ∧ (J (allN _) W' ∨ ∃ q, q <+: allN _ ∧ Jx q W') := by
  refine callsIn_of_wp Try.func44 rfl trivial ?_ rfl
  simp only [Try.ntmps44, List.size_toArray, List.length_cons, List.length_nil, Nat.reduceAdd, Nat.reduceSub, Array.replicate_succ, Array.replicate_zero, List.push_toArray, List.append_toArray, List.nil_append, List.cons_append]
  have hT7 : 7 ≤ T.length := by rw [hT, List.length_append]; have : builtL.length = 7 := rfl; omega
  have HTB : Hid (∀ (j : Nat) (h : j < 7) (h2 : j < T.length) (h3 : j < builtL.length), T[j] = builtL[j]) := fun j h h2 h3 => by
    subst hT
    rw [List.getElem_append_left h3]
  have HST : Hid (RestF w0 T (.slice A fs.length c) fs rs 7) := ⟨hs, hR, by rw [hT]; show List.drop builtL.length (builtL ++ _) = _; exact List.drop_left, hT7, hl⟩
  have HB := Lib.hid hB
  have HBL := Lib.hid hb
  have HBA := Lib.hid hbA
  have HZ0 := Lib.hid (show bA < W.heap.size ∧ Bl < W.heap.size ∧ w0.heap.size ≤ W.heap.size from ⟨hbA.lt, hb.lt, hB.size⟩)
  have HNE := Lib.hid hne
  clear hB hs hR hT hb hbA hne
  gi_wp2_with fail
  refine ⟨trivial, wide_deep _, ?_⟩
  refine (callsIn_wide.2 (built_any W)).mono ?_
  rintro e W1 ⟨A5, c5, rfl, hs5, hb5⟩
  have hJ1 : J [] W1 := abides_to hA hJ hb5
  have HB1 := Lib.hid hb5
  have HS5 := Lib.hid hs5
  have HZ1 := Lib.hid hb5.size
  clear hJ hb5 hs5
  have hl7 : builtL.length = 7 := rfl
  rw [hl7]
  gi_wp2
  gi_loopw [11] (fun y wr => ∃ j : Nat, y = .int .i64 (j : Int) ∧ j ≤ 7 ∧ J ((allN _).take j) wr ∧ Hid (KpA w0.heap.size bA W1 wr)) (fun y _ => 7 - (intOf y).toNat)
  case atStart => exact ⟨0, rfl, by omega, by rw [List.take_zero]; exact hJ1, KpA.refl _ _ _⟩
  case round =>
    obtain ⟨j, rfl, hj, hJk, HK⟩ := hrel
    clear hJ1
    by_cases hjl : j < 7
    · have hji : (j : Int) < 7 := by omega
      have hjT : j < T.length := by omega
      have hjb : j < builtL.length := by rw [hl7]; exact hjl
      obtain ⟨b, o, rfl, hlt, hat⟩ := HS5.out.at_ hjb
      have hbA1 : Boxed W1 bA 35 (.slice none 0 0) := (HB1.out.block bA HZ0.out.1).trans HBA.out
      have hp := HK.out.att hbA1 hat
      obtain ⟨x, hx⟩ : ∃ x, builtL[j] = x := ⟨_, rfl⟩
      have HTX : Hid (T[j] = x) := by show _ = _; rw [HTB.out j hjl hjT hjb, hx]
      rw [hx] at hp
      have x0 := hp.c0
      have x1 := hp.c1
      have x2 := hp.c2
      have x3 := hp.c3
      have x4 := hp.c4
      have x5 := hp.c5
      have x6 := hp.c6
      have HTS := Lib.hid (allN_take hjT)
      have HPR := Lib.hid (List.take_prefix (j + 1) (allN T.length))
      have HLN : Hid (((allN T.length).take j).length < T.length) := by show _ < _; rw [List.length_take, allN_len]; omega
      have hbl := (Below.refl wr.heap.size wr).alloc (Nat.le_refl _) (.cells #[.int .i64 x.id, .string x.nm, .int .i64 x.ty, .bool x.many, .int .i64 x.un, .bool x.part, .bool x.ix] 39)
      have hJ4 := abides_to hA hJk hbl
      have HK4 := Lib.hid (HK.out.trans (kpA_below hbl (by have := HK.out.size; have := HZ0.out.2.2; have := HZ1.out; omega) (by have := HK.out.size; have := HZ0.out.1; have := HZ1.out; omega)))
      obtain ⟨fn, tmps, assign, body, hy, hR⟩ := hY (n - 1) _ ⟨j, hjT⟩ _ hJ4 HLN.out
      have hy' : (Instr.yield lp #[.agg #[.int .i64 x.id, .string x.nm, .int .i64 x.ty, .bool x.many, .int .i64 x.un, .bool x.part, .bool x.ix]]).run Try.prog (wr.alloc (.cells #[.int .i64 x.id, .string x.nm, .int .i64 x.ty, .bool x.many, .int .i64 x.un, .bool x.part, .bool x.ix] 39)) = .ok (.round lp fn tmps assign body) (wr.alloc (.cells #[.int .i64 x.id, .string x.nm, .int .i64 x.ty, .bool x.many, .int .i64 x.un, .bool x.part, .bool x.ix] 39)) := by
        have h := hy
        simp only [HTX.out] at h
        exact h
      clear hbl hJ4 hJk hy hp hat hx hbA1
      gi_wp2
      refine ⟨wide_deep _, ?_⟩
      refine hR.mono ?_
      rintro e W5 (⟨rfl, hJ5, hk5⟩ | ⟨rfl, hJx5⟩)
      · gi_wp2
        go_roundw
        case rel => exact ⟨j + 1, by go_num, by omega, by rw [HTS.out]; exact hJ5, HK4.out.trans hk5⟩
        case measure => simp [intOf]; omega
      · gi_wp2
        refine bodyPost_ret (results_none rfl _ _ _) rfl ?_
        exact ⟨⟨_, rfl⟩, .inr ⟨(allN _).take (j + 1), HPR.out, by rw [HTS.out]; exact hJx5⟩⟩
    · have hji : ¬ (j : Int) < 7 := by omega
      obtain rfl : j = 7 := by omega
      have hbx : Boxed wr Bl 24 (.slice A fs.length c) := HK.out.box ((HB1.out.block bA HZ0.out.1).trans HBA.out) ((HB1.out.block Bl HZ0.out.2.1).trans HBL.out) HNE.out
      have k0 := hbx.cell
      clear hbx
      gi_wp2
      gi_loopw [5] (fun x w2 => ∃ (A1 : Option Addr) (c1 : Nat) (gs : List FactP) (rs2 : List (List FactP)) (q : Nat), x = .slice A1 gs.length c1 ∧ Hid (RestF w0 T (.slice A1 gs.length c1) gs rs2 q) ∧ J ((allN _).take q) w2 ∧ Hid (KpA w0.heap.size bA W1 w2)) (fun x _ => lenS x)
      case atStart => exact ⟨A, c, fs, rs, 7, rfl, HST.out, hJk, HK⟩
      case round =>
        obtain ⟨A1, c1, gs, rs2, q, rfl, HR, hJk, HK⟩ := hrel
        have HBW : Hid (Below w0.heap.size w0 wr) := (HB.out.trans (HB1.out.mono HB.out.size)).trans HK.out.low
        by_cases h0 : 0 < gs.length
        · have hgi : (0 : Int) < (gs.length : Int) := by omega
          have HL1 := Lib.hid HR.out.l
          have HO := Lib.hid (ofOne_any A1 c1 gs _ (HR.out.f.next HBW.out) h0 (by have := HL1.out; omega))
          have hcc : gs.length ≤ c1 := by obtain ⟨_, _, e, _, h2, _⟩ := HR.out.f; injection e with _ _ e; omega
          have HCC := Lib.hid hcc
          have HJK := Lib.hid hJk
          have H0 := Lib.hid h0
          clear hJk hcc h0
          gi_wp2_with fail
          refine ⟨trivial, wide_deep _, ?_⟩
          refine (callsIn_wide.2 HO.out).mono ?_
          rintro e W2 ⟨⟨k, rfl, hk⟩, q2, rfl⟩
          have hsl := fun w => sliceFa_from A1 gs.length c1 k hk.le HCC.out w
          obtain ⟨f0, hf0⟩ : ∃ f0, gs[0]? = some f0 := ⟨_, List.getElem?_eq_getElem H0.out⟩
          have htl : (gs.take k).length = k := by rw [List.length_take, Nat.min_eq_left hk.le]
          have ht0 : (gs.take k)[0]? = some f0 := by rw [List.getElem?_take, if_pos (by have := hk.pos; omega), hf0]
          have hmr : madeR (gs.take k) = madeL (foldM f0.e (gs.take k)) := by
            cases hg : gs.take k with
            | nil => rw [hg] at ht0; cases ht0
            | cons g r =>
              rw [hg] at ht0
              cases ht0
              rfl
          have hm := fun w (hw : Below w0.heap.size w0 w) => made_any A1 c1 (gs.take k) w (FVa.take (HR.out.f.next hw) k hk.le) f0 ht0 (by rw [htl]; have := hk.le; have := HL1.out; omega)
          rw [htl] at hm
          have HSTP := HR.out.step hk
          rw [hmr] at HSTP
          obtain ⟨d, hd⟩ : ∃ d, madeL (foldM f0.e (gs.take k)) = d := ⟨_, rfl⟩
          rw [hd] at hm HSTP
          have HM := Lib.hid hm
          have HSP := Lib.hid HSTP
          have HKL := Lib.hid (And.intro hk.pos hk.le)
          clear hm hd hmr ht0 htl hf0 hk HSTP HO
          have HBD : Hid (Below w0.heap.size w0 (World.drewN wr q2)) := below_ind HBW.out q2
          gi_wp2_with fail
          refine ⟨trivial, wide_deep _, ?_⟩
          refine (callsIn_wide.2 (HM.out _ HBD.out)).mono ?_
          rintro e W3 ⟨rfl, hb3⟩
          clear hsl HM
          have HB3 : Hid (Below wr.heap.size wr W3) := (below_ind (Below.refl _ _) q2).trans (hb3.mono (Nat.le_refl _))
          clear hb3
          cases d with
          | none =>
            obtain ⟨rs', HR'⟩ := HSP.out.1 rfl
            have HRN := Lib.hid HR'
            have hbl := HB3.out.alloc HB3.out.size (.cells #[.int .i64 0, .string ⟨#[]⟩, .int .i64 0, .bool false, .int .i64 0, .bool false, .bool false] 39)
            have HJ4 := Lib.hid (abides_to hA HJK.out hbl)
            have HK4 := Lib.hid (HK.out.trans (kpA_below hbl (by have := HK.out.size; have := HZ0.out.2.2; have := HZ1.out; omega) (by have := HK.out.size; have := HZ0.out.1; have := HZ1.out; omega)))
            clear hbl HR' HSP
            simp only [fndV, attV, zA, Option.getD_none, Option.isSome_none]
            gi_wp2
            refine ⟨(fun _ h => by cases h), ?_⟩
            gi_wp2
            go_roundw
            case rel => exact ⟨cutFa A1 c1 k, c1 - k, gs.drop k, rs', q, by rw [List.length_drop], by rw [List.length_drop]; exact HRN.out, HJ4.out, HK4.out⟩
            case measure => have := HKL.out; simp [lenS]; omega
          | some y =>
            obtain ⟨hq, hTq, rs', HR'⟩ := HSP.out.2 y rfl
            have HRN := Lib.hid HR'
            have HTX := Lib.hid hTq
            have HTS := Lib.hid (allN_take hq)
            have HPR := Lib.hid (List.take_prefix (q + 1) (allN T.length))
            have HLN : Hid (((allN T.length).take q).length < T.length) := by show _ < _; rw [List.length_take, allN_len]; omega
            have hbl := HB3.out.alloc HB3.out.size (.cells #[.int .i64 y.id, .string y.nm, .int .i64 y.ty, .bool y.many, .int .i64 y.un, .bool y.part, .bool y.ix] 39)
            have hJ4 := abides_to hA HJK.out hbl
            have HK4 := Lib.hid (HK.out.trans (kpA_below hbl (by have := HK.out.size; have := HZ0.out.2.2; have := HZ1.out; omega) (by have := HK.out.size; have := HZ0.out.1; have := HZ1.out; omega)))
            obtain ⟨fn, tmps, assign, body, hy, hR⟩ := hY (n - 1) _ ⟨q, hq⟩ _ hJ4 HLN.out
            have hy' : (Instr.yield lp #[.agg #[.int .i64 y.id, .string y.nm, .int .i64 y.ty, .bool y.many, .int .i64 y.un, .bool y.part, .bool y.ix]]).run Try.prog (W3.alloc (.cells #[.int .i64 y.id, .string y.nm, .int .i64 y.ty, .bool y.many, .int .i64 y.un, .bool y.part, .bool y.ix] 39)) = .ok (.round lp fn tmps assign body) (W3.alloc (.cells #[.int .i64 y.id, .string y.nm, .int .i64 y.ty, .bool y.many, .int .i64 y.un, .bool y.part, .bool y.ix] 39)) := by
              have h := hy
              simp only [HTX.out] at h
              exact h
            clear hbl hJ4 hy HR' HSP hTq
            simp only [fndV, attV, Option.getD_some, Option.isSome_some]
            gi_wp2
            refine ⟨wide_deep _, ?_⟩
            refine hR.mono ?_
            rintro e W5 (⟨rfl, hJ5, hk5⟩ | ⟨rfl, hJx5⟩)
            · gi_wp2
              go_roundw
              case rel => exact ⟨cutFa A1 c1 k, c1 - k, gs.drop k, rs', q + 1, by rw [List.length_drop], by rw [List.length_drop]; exact HRN.out, by rw [HTS.out]; exact hJ5, HK4.out.trans hk5⟩
              case measure => have := HKL.out; simp [lenS]; omega
            · gi_wp2
              refine bodyPost_ret (results_none rfl _ _ _) rfl ?_
              exact ⟨⟨_, rfl⟩, .inr ⟨(allN _).take (q + 1), HPR.out, by rw [HTS.out]; exact hJx5⟩⟩
        · have hgi : ¬ (0 : Int) < (gs.length : Int) := by omega
          obtain rfl : gs = [] := List.length_eq_zero_iff.1 (by omega)
          obtain rfl := HR.out.end
          rw [List.take_of_length_le (by rw [allN_len]; omega)] at hJk
          gi_wp2
          go_end0
          exact ⟨⟨_, rfl⟩, .inl hJk⟩
end Go.Proofs.Ytlmihlepaoifiaa

/-
  FRAMES of the program's Of: what a round leaves.
-/
namespace Go.Proofs.Ytlmihlepaoifiaa
open Go.RowKit Go.Shelf Go.Maps

theorem iter_stops (n bA Bl : Nat) (A : Option Addr) (c : Nat) (fs : List FactP) (T : List Att) (w0 w : World) (rs : List (List FactP)) (hB : Below w0.heap.size w0 w) (hs : FVa w0 (.slice A fs.length c) fs) (hl : fs.length ≤ 1954687338268) (hR : RunsE fs rs) (hT : T = builtL ++ rs.filterMap madeR)
    (hb : Boxed w Bl 24 (.slice A fs.length c)) (hbA : Boxed w bA 35 (.slice none 0 0)) (hne : Bl ≠ bA) :
    SeqStopsK Fence.wide n Try.prog 44 #[.pointer (some ⟨Bl, 0, none⟩)] (fun x : Fin T.length => #[attV T[x.val]]) (KpA w0.heap.size bA) (fun ys => ys = allN _) (fun q => q <+: allN _) T.length w := fun lp J Jx W hW hA _ hY h0' => by
  have hH : HandsA T w0.heap.size bA lp J Jx := fun m pre x W1 hj hl => YieldAt.anyDepth m (hY pre x W1 hj hl)
  refine (iter_in lp bA Bl W.heap.size A c fs T w0 rs J Jx hA hH n W (hB.trans (hW.mono hB.size)) hs hl hR hT ((hW.block Bl hb.lt).trans hb) ((hW.block bA hbA.lt).trans hbA) hne h0').mono ?_
  rintro e W' ⟨hv, hj | ⟨q, hq, hx⟩⟩
  · exact ⟨hv, .inl ⟨_, rfl, hj⟩⟩
  · exact ⟨hv, .inr ⟨q, hq, hx⟩⟩

/-- the attributes that have come -/
def preL (T : List Att) (pre : List (Fin T.length)) : List Att := pre.map fun i => T[i.val]
theorem preL_snoc (T : List Att) (pre : List (Fin T.length)) (x : Fin T.length) : preL T (pre ++ [x]) = preL T pre ++ [T[x.val]] := by unfold preL; rw [List.map_append]; rfl
theorem preL_all (T : List Att) : preL T (allN T.length) = T := by
  unfold preL allN
  refine List.ext_getElem (by simp) (fun i h1 h2 => ?_)
  simp
theorem preL_len (T : List Att) (pre : List (Fin T.length)) : (preL T pre).length = pre.length := by unfold preL; rw [List.length_map]
theorem preL_pre {T : List Att} {pre : List (Fin T.length)} (h : pre <+: allN T.length) : ∃ r, T = preL T pre ++ r := by
  obtain ⟨t, ht⟩ := h
  refine ⟨preL T t, ?_⟩
  have := preL_all T
  rw [← ht] at this
  unfold preL at this ⊢
  rw [List.map_append] at this
  exact this.symm
/-- what stands while the attributes come -/
structure NMid (w : World) (M b2 b3 bA bN bM : Nat) (T : List Att) (pre : List (Fin T.length)) (W : World) : Prop where
  sz : M ≤ W.heap.size
  low : Below w.heap.size w W
  row : ∃ v, Boxed W bA 35 v ∧ OwnA W w.heap.size v (preL T pre)
  r2 : Boxed W b2 35 (.slice none 0 0)
  r3 : Boxed W b3 22 (.int .i64 0)
  nb : Boxed W bN 49 (.map (some bM))
  map : W.ownsMap (H := Unit) Try.prog 9 anyE bM pre.length (setN (preL T pre))
  one : oneName (preL T pre)
/-- what stands when a name has come twice -/
structure NStop (w : World) (b2 b3 : Nat) (T : List Att) (cd : Code) (pre : List (Fin T.length)) (W : World) : Prop where
  low : Below w.heap.size w W
  r2 : Boxed W b2 35 (.slice none 0 0)
  r3 : Boxed W b3 22 (.int .i64 70)
  cd : cd = .ret
  two : ∃ p x, pre = p ++ [x] ∧ (preL T p).any (fun a => decide (a.nm = T[x.val].nm)) = true
theorem OwnA.kept {W W' : World} {B : Nat} {v : Value} {l : List Att} {row : Option Nat} (h : OwnA W B v l) (hg : W.grownBy W' row) (hr : ∀ r, row = some r → ∃ o : Obj, W.heap[r]? = some o ∧ o.isCells = false) : OwnA W' B v l := by
  refine World.ownsRow.kept h hg ?_
  rcases h.2 with ⟨rfl, _⟩ | ⟨g, cap, cur, rfl, _, hgb, _⟩
  · exact .inl rfl
  · refine .inr (fun e => ?_)
    obtain ⟨o, ho, hc⟩ := hr g e.symm
    rw [hgb] at ho; cases ho; cases hc
theorem nMid_own {w : World} {M b2 b3 bA bN bM : Nat} (T : List Att) (h0 : w.heap.size ≤ M) (h2 : b2 < M) (h3 : b3 < M) (hA : bA < M) (hN : bN < M) (hM : bM < M) : OwnFrom M (NMid w M b2 b3 bA bN bM T) := fun pre X Y row g hg hr => by
  have hne : ∀ b, b < M → some b ≠ row := fun b hb e => by have := (hr b e.symm).1; omega
  obtain ⟨v, g1, g2⟩ := g.row
  exact ⟨Nat.le_trans g.sz hg.size, g.low.grown hg g.low.size (fun j ej => by have := (hr j ej).1; omega), ⟨v, g1.kept hg (hne _ hA), g2.kept hg (fun r e => (hr r e).2)⟩, g.r2.kept hg (hne _ h2), g.r3.kept hg (hne _ h3), g.nb.kept hg (hne _ hN), g.map.kept hg (hne _ hM), g.one⟩
theorem nStop_own {w : World} {M b2 b3 : Nat} (T : List Att) (h0 : w.heap.size ≤ M) (h2 : b2 < M) (h3 : b3 < M) (cd : Code) : OwnFrom M (NStop w b2 b3 T cd) := fun pre X Y row g hg hr => by
  have hne : ∀ b, b < M → some b ≠ row := fun b hb e => by have := (hr b e.symm).1; omega
  exact ⟨g.low.grown hg g.low.size (fun j ej => by have := (hr j ej).1; omega), g.r2.kept hg (hne _ h2), g.r3.kept hg (hne _ h3), g.cd, g.two⟩
/-- an append into the row that the box names -/
theorem att_step {W w1 : World} {n0 bA n : Nat} {v v' : Value} {l : List Att} {xs : List Value} {tmp : Obj} (hv : Boxed W bA 35 v) (h : OwnA W n0 v l) (h0 : n0 ≤ W.heap.size) (hA : n0 ≤ bA) (hgrow : (W.alloc tmp).grownBy w1 v.ownBlock)
    (hat : v'.ownBlock = v.ownBlock ∨ v'.ownBlock = some (W.alloc tmp).heap.size) (hown : w1.ownsRow n0 39 7 v' n xs) :
    Boxed w1 bA 35 v ∧ Boxed (w1.setCell ⟨bA, 0, none⟩ v') bA 35 v' ∧ KeepsOthers W (w1.setCell ⟨bA, 0, none⟩ v') ∧ KpA n0 bA W (w1.setCell ⟨bA, 0, none⟩ v') ∧ (w1.setCell ⟨bA, 0, none⟩ v').ownsRow n0 39 7 v' n xs := by
  have hrow : W.ownsRow n0 39 7 v l.length (l.flatMap cellsA) := h
  have hv1 : Boxed w1 bA _ v := (hv.alloc tmp).kept hgrow (hv.not_row (by decide) hrow)
  have hlo : ∀ j, v.ownBlock = some j → n0 ≤ j := fun j ej => (World.ownsRow.lt hrow j ej).1
  have hs := hgrow.size
  rw [World.size_alloc] at hs
  have hb9 : Boxed (w1.setCell ⟨bA, 0, none⟩ v') bA 35 v' := hv1.set v'
  have hrn : ∀ k, ¬ RowAt W bA k → some k ≠ v.ownBlock := fun k hk e => by
    rcases hrow.2 with ⟨rfl, _⟩ | ⟨g, cap, cur, rfl, _⟩
    · simp [Value.ownBlock] at e
    · have : k = g := by simpa [Value.ownBlock] using e
      subst this
      exact hk ⟨_, _, _, hv.cell⟩
  refine ⟨hv1, hb9, ?_, ⟨?_, ?_, ?_, ?_⟩, ?_⟩
  · refine ((KeepsOthers.alloc W tmp).trans (KeepsOthers.of_grownBy hgrow fun j o ej hj => ?_)).trans (KeepsOthers.setCell _ _ _)
    rcases (World.ownsRow.alloc hrow tmp).2 with ⟨rfl, _⟩ | ⟨g, cap, cur, rfl, _, hgb, _⟩
    · simp [Value.ownBlock] at ej
    · obtain rfl : g = j := by simpa [Value.ownBlock] using ej
      rw [hgb] at hj; cases hj; rfl
  · exact (((Below.refl n0 W).alloc h0 tmp).grown hgrow (by rw [World.size_alloc]; omega) hlo).setCell (p := ⟨bA, 0, none⟩) hA v'
  · simp; omega
  · intro k cs t fr hk hn hr
    have hlt := (Array.getElem?_eq_some_iff.1 hk).1
    exact (Below.heap_setCell _ ⟨bA, 0, none⟩ _ k hn).trans ((hgrow.block k (by rw [World.size_alloc]; omega) (hrn k hr)).trans ((Below.heap_alloc _ _ _ hlt).trans hk))
  · rintro k ⟨m, c, j, hc⟩
    rw [hb9.cell] at hc
    cases hc
    rcases hat with e | e
    · rcases hrow.2 with ⟨rfl, _⟩ | ⟨g, cap, cur, rfl, _⟩
      · simp [Value.ownBlock] at e
      · have : k = g := by simpa [Value.ownBlock] using e
        subst this
        exact .inl ⟨_, _, _, hv.cell⟩
    · right
      have : k = W.heap.size + 1 := by simpa [Value.ownBlock] using e
      omega
  · exact hown.kept (grownBy_setCell' w1 bA v') (.inr (hv1.not_row (by decide) hown).symm)
/-- a store into a map that lay ahead of the loop -/
theorem kpA_map {X Y : World} {n0 bA bM n : Nat} {D : DataW Unit} (hg : X.grownBy Y (some bM)) (hm : X.ownsMap (H := Unit) Try.prog 9 anyE bM n D) (h0 : n0 ≤ bM) (hA : bA ≠ bM) (hAx : bA < X.heap.size) : KpA n0 bA X Y := by
  obtain ⟨es, clock, hb, _⟩ := hm
  have hM := (Array.getElem?_eq_some_iff.1 hb).1
  refine ⟨(Below.refl n0 X).grown hg (by omega) (fun j e => by cases e; exact h0), hg.size, fun k cs t fr hk _ _ => ?_, fun k ⟨m, c, j, h⟩ => ?_⟩
  · refine (hg.block k (Array.getElem?_eq_some_iff.1 hk).1 (fun e => ?_)).trans hk
    cases e
    rw [hb] at hk
    cases hk
  · have hbb : Y.heap[bA]? = X.heap[bA]? := hg.block bA hAx (fun e => by injection e with e; exact hA e)
    exact .inl ⟨m, c, j, by rwa [World.cell?_of_block (w := X) (a := ⟨bA, 0, none⟩) hbb] at h⟩
theorem not_rowAt {W : World} {bA b B : Nat} {t : TypeId} {u v : Value} {l : List Att} (hv : Boxed W bA 35 v) (ho : OwnA W B v l) (hb : Boxed W b t u) (ht : t ≠ 39) : ¬ RowAt W bA b := by
  rintro ⟨n, c, j, h⟩
  rw [hv.cell] at h
  cases h
  rcases ho.2 with ⟨e, _⟩ | ⟨g, cap, cur, e, _, hgb, _⟩
  · cases e
  · cases e
    rw [show W.heap[b]? = _ from hb] at hgb
    injection hgb with hgb
    injection hgb with _ h2 _
    exact ht h2
theorem map_not_row {W : World} {bM B n : Nat} {D : DataW Unit} {v : Value} {l : List Att} (hm : W.ownsMap (H := Unit) Try.prog 9 anyE bM n D) (ho : OwnA W B v l) : some bM ≠ v.ownBlock := by
  obtain ⟨es, clock, hb, _⟩ := hm
  rcases ho.2 with ⟨rfl, _⟩ | ⟨g, cap, cur, rfl, _, hgb, _⟩
  · simp [Value.ownBlock]
  · intro e
    have : bM = g := by simpa [Value.ownBlock] using e
    subst this
    rw [hb] at hgb
    cases hgb
/-! ### how long names are -/
theorem nmL_size {l : List Vl} (h : ∀ v ∈ l, v.2.2.size ≤ maxLen) : (nmL l).size ≤ maxLen := by
  have key : ∀ (l : List Vl) (s : ByteArray), s.size ≤ maxLen → (∀ v ∈ l, v.2.2.size ≤ maxLen) → (l.foldl (fun s v => if v.1 = 7 then v.2.2 else s) s).size ≤ maxLen := by
    intro l
    induction l with
    | nil => exact fun s hs _ => hs
    | cons v r ih =>
      intro s hs h
      rw [List.foldl_cons]
      refine ih _ ?_ (fun x hx => h x (List.mem_cons_of_mem _ hx))
      split
      · exact h v (List.mem_cons_self ..)
      · exact hs
  exact key l _ (by decide) h
theorem docL_nm {e : Int} {fs : List FactP} {a : Att} (h : docL e fs = some a) (hz : ∀ f ∈ fs, f.s.size ≤ maxLen) : a.nm.size ≤ maxLen := by
  unfold docL at h
  split at h
  · cases h
  · cases h
    refine nmL_size fun v hv => ?_
    unfold valsL at hv
    obtain ⟨f, hf, rfl⟩ := List.mem_map.1 hv
    exact hz f (List.mem_filter.1 hf).1
theorem docFrom_nm {all : List FactP} (hz : ∀ f ∈ all, f.s.size ≤ maxLen) : ∀ (l : List FactP) (p : Option Int), ∀ a ∈ docFrom all p l, a.nm.size ≤ maxLen
  | [], _, a, h => by cases h
  | f :: l, p, a, h => by
    rcases List.mem_append.1 (show a ∈ (if p = some f.e then [] else (docL f.e all).toList) ++ docFrom all (some f.e) l from h) with h | h
    · split at h
      · cases h
      · exact docL_nm (Option.mem_toList.1 h) hz
    · exact docFrom_nm hz l _ a h
theorem atts_nm {fs : List FactP} (hz : ∀ f ∈ fs, f.s.size ≤ maxLen) : ∀ a ∈ attsL fs, a.nm.size ≤ maxLen := fun a h => by
  rcases List.mem_append.1 h with h | h
  · exact (built_ok a h).nm
  · exact docFrom_nm hz _ _ a h
theorem atts_len (fs : List FactP) : (attsL fs).length ≤ 7 + fs.length := by
  unfold attsL
  rw [List.length_append]
  have := docFrom_len fs fs none
  simp only [builtL, List.length_cons, List.length_nil]
  omega
end Go.Proofs.Ytlmihlepaoifiaa

/-
  ATTRIBUTES IN A MAP by their numbers: what a look-up reads; the closure that asks whether there is one.
-/
namespace Go.Proofs.Ytlmihlepaoifiaa
open Go.RowKit Go.Maps

theorem attV_inj {a b : Att} (h : attV a = attV b) : a = b := by
  obtain ⟨a1, a2, a3, a4, a5, a6, a7⟩ := a
  obtain ⟨b1, b2, b3, b4, b5, b6, b7⟩ := b
  simp only [attV, Value.agg.injEq, Array.mk.injEq, List.cons.injEq, Value.int.injEq, Value.string.injEq, Value.bool.injEq, true_and, and_true] at h
  obtain ⟨h1, h2, h3, h4, h5, h6, h7⟩ := h
  subst h1; subst h2; subst h3; subst h4; subst h5; subst h6; subst h7
  rfl
def encA {H : Type} (a : Att) : DataW H := .agg [.lit (.int .i64 a.id), .lit (.string a.nm.data.toList), .lit (.int .i64 a.ty), .lit (.bool a.many), .lit (.int .i64 a.un), .lit (.bool a.part), .lit (.bool a.ix)]
theorem encA_inj {H : Type} {a b : Att} (h : encA (H := H) a = encA b) : a = b := by
  obtain ⟨a1, a2, a3, a4, a5, a6, a7⟩ := a
  obtain ⟨b1, b2, b3, b4, b5, b6, b7⟩ := b
  simp only [encA, DataW.agg.injEq, List.cons.injEq, DataW.lit.injEq, Lit.int.injEq, Lit.string.injEq, Lit.bool.injEq, true_and, and_true] at h
  obtain ⟨h1, h2, h3, h4, h5, h6, h7⟩ := h
  have h2' : a2 = b2 := ByteArray.ext (Array.toList_inj.1 h2)
  subst h1; subst h2'; subst h3; subst h4; subst h5; subst h6; subst h7
  rfl
open Classical in
noncomputable def attE {H : Type} (v : Value) : Option (DataW H × List MemPlace) := if h : ∃ a, v = attV a then some (encA h.choose, []) else none
theorem attE_mk {H : Type} (a : Att) : attE (H := H) (attV a) = some (encA a, []) := by
  have h : ∃ b, attV a = attV b := ⟨a, rfl⟩
  unfold attE
  rw [dif_pos h, ← attV_inj h.choose_spec]
theorem attE_inv {H : Type} {v : Value} {a : Att} {ps : List MemPlace} (h : attE (H := H) v = some (encA a, ps)) : v = attV a := by
  unfold attE at h
  split at h
  · rename_i hx
    injection h with h
    injection h with h1 _
    rw [hx.choose_spec, encA_inj h1]
  · cases h
/-- the attribute of a number, the last one of it -/
def lookO (T : List Att) (x : Int) : Option Att := T.foldl (fun o a => if a.id = x then some a else o) none
def lookT (T : List Att) (x : Int) : Att := (lookO T x).getD zA
def isB (T : List Att) (x : Int) : Bool := (lookO T x).isSome
theorem lookO_snoc (T : List Att) (a : Att) (x : Int) : lookO (T ++ [a]) x = if a.id = x then some a else lookO T x := by unfold lookO; rw [List.foldl_append]; rfl
noncomputable def mapA {H : Type} (T : List Att) : DataW H := T.foldl (fun D a => D.put (.int .i64 a.id) (encA a)) (.map [])
theorem mapA_snoc {H : Type} (T : List Att) (a : Att) : mapA (H := H) (T ++ [a]) = (mapA T).put (.int .i64 a.id) (encA a) := by unfold mapA; rw [List.foldl_append]; rfl
theorem mapA_isMap {H : Type} (T : List Att) : IsMap (mapA (H := H) T) := by
  have key : ∀ (T : List Att) (D : DataW H), IsMap D → IsMap (T.foldl (fun D a => D.put (.int .i64 a.id) (encA a)) D) := by
    intro T
    induction T with
    | nil => exact fun D h => h
    | cons a r ih => exact fun D h => ih _ (h.put _ _)
  exact key T _ isMap_empty
theorem mapA_at {H : Type} (T : List Att) (x : Int) : (∀ zd, (mapA (H := H) T).atKey (.int .i64 x) zd = ((lookO T x).map encA).getD zd) ∧ Maps.has (mapA (H := H) T) (.int .i64 x) = isB T x := by
  have key : ∀ (n : Nat) (T : List Att), T.length = n → (∀ zd, (mapA (H := H) T).atKey (.int .i64 x) zd = ((lookO T x).map encA).getD zd) ∧ Maps.has (mapA (H := H) T) (.int .i64 x) = isB T x := by
    intro n
    induction n with
    | zero =>
      intro T h
      obtain rfl := List.length_eq_zero_iff.1 h
      exact ⟨fun zd => atKey_of_not_has rfl zd, rfl⟩
    | succ n ih =>
      intro T h
      have hne : T ≠ [] := fun e => by rw [e] at h; cases h
      obtain ⟨L, a, rfl⟩ : ∃ L a, T = L ++ [a] := ⟨T.dropLast, T.getLast hne, (List.dropLast_concat_getLast hne).symm⟩
      obtain ⟨i1, i2⟩ := ih L (by simpa using h)
      unfold isB at i2 ⊢
      rw [mapA_snoc, lookO_snoc]
      by_cases e : a.id = x
      · subst e
        rw [if_pos rfl]
        have hk : WideAt.IsKeyLit (Lit.int .i64 a.id) := trivial
        exact ⟨fun zd => atKey_put_same (mapA_isMap L) hk _ _, has_put_same (mapA_isMap L) hk _⟩
      · have hk : (Lit.int .i64 x : Lit) ≠ .int .i64 a.id := fun h => by injection h with _ h; exact e h.symm
        rw [if_neg e]
        exact ⟨fun zd => (atKey_put_other hk _ _).trans (i1 zd), (has_put_other hk _).trans i2⟩
  exact key _ T rfl
theorem mapA_look {H : Type} (T : List Att) (x : Int) : (mapA (H := H) T).atKey (.int .i64 x) (encA zA) = encA (lookT T x) := by
  rw [(mapA_at T x).1]
  unfold lookT
  cases lookO T x <;> rfl
theorem lawI6 : Keyed Try.prog 2 := int_keyed Try.underlying2
theorem zeroAtt (w : World) : (zeroValue 39).run Try.prog w = .ok (attV zA) w := by kernel_rfl
/-- attributes by their numbers -/
def MapAt (W : World) (bM : Nat) (T : List Att) : Prop := ∃ n, n ≤ T.length ∧ W.ownsMap (H := Unit) Try.prog 2 attE bM n (mapA T)
theorem MapAt.lt {W : World} {bM : Nat} {T : List Att} (h : MapAt W bM T) : bM < W.heap.size := by
  obtain ⟨_, _, h⟩ := h
  exact h.lt
theorem MapAt.next {W W' : World} {bM : Nat} {T : List Att} (h : MapAt W bM T) (hb : Below W.heap.size W W') : MapAt W' bM T := by
  have hlt := h.lt
  obtain ⟨n, hn, h⟩ := h
  exact ⟨n, hn, ownsMap_below h hb hlt⟩
theorem MapAt.ok {W : World} {bM : Nat} {T : List Att} (h : MapAt W bM T) (x : Int) (hx : (Lit.int .i64 x).wf = true) : (Instr.lookup 62 (.map (some bM)) (.int .i64 x) true).run Try.prog W = .ok (.tuple #[attV (lookT T x), .bool (isB T x)]) W := by
  obtain ⟨n, _, h⟩ := h
  obtain ⟨v, ps, hr, hv⟩ := h.look_ok lawI6 Try.underlying62 (zeroAtt W) (attE_mk zA) (keyOf_int_mk Try.underlying2 hx)
  rw [mapA_look] at hv
  rw [hr, attE_inv hv, (mapA_at T x).2]
theorem MapAt.get {W : World} {bM : Nat} {T : List Att} (h : MapAt W bM T) (x : Int) (hx : (Lit.int .i64 x).wf = true) : (Instr.lookup 62 (.map (some bM)) (.int .i64 x) false).run Try.prog W = .ok (attV (lookT T x)) W := by
  obtain ⟨n, _, h⟩ := h
  obtain ⟨v, ps, hr, hv⟩ := h.lookup lawI6 Try.underlying62 (zeroAtt W) (attE_mk zA) (keyOf_int_mk Try.underlying2 hx)
  rw [mapA_look] at hv
  rw [hr, attE_inv hv]

set_option maxRecDepth 100000 in
set_option maxHeartbeats 1000000 in
/-- CONTRACT: the closure that asks whether a number is an attribute's. -/
theorem isAttr_any (T : List Att) (bB bM : Nat) (x : Int) (hx : (Lit.int .i64 x).wf = true) (w : World) (hb : Boxed w bB 62 (.map (some bM))) (hm : MapAt w bM T) :
    Calls Try.prog 19 #[.int .i64 x, .pointer (some ⟨bB, 0, none⟩)] w fun e w' => e = .returned (.bool (isB T x)) ∧ Below w.heap.size w w' := by
  have hl := hm.ok x hx
  have b0 := hb.cell
  obtain ⟨y, hy⟩ : ∃ y, lookT T x = y := ⟨_, rfl⟩
  obtain ⟨v, hv⟩ : ∃ v, isB T x = v := ⟨_, rfl⟩
  rw [hy, hv] at hl
  rw [hv]
  unfold attV at hl
  clear hy hv hb hm
  go_enter Try.func19, Try.ntmps19
  go_wp2
  go_ret
  exact ⟨rfl, (Below.refl _ _).alloc (Nat.le_refl _) _⟩
end Go.Proofs.Ytlmihlepaoifiaa
