/-
  CONTRACT of End (the program's).
-/
import Derived.Test.YtdlkblnnnmgijaaOBack
namespace Go.Proofs.Ytdlkblnnnmgijaa
open Go.RowKit Go.Shelf
attribute [local go_sem] Oper.semAt_some

/-- What End leaves in the results' two cells. -/
def EndIs (W : World) (B : Nat) (l : List UInt8) (v : Value) (is : Bool) : Prop := (is = true ∧ ∃ e, endF l = some e ∧ OwnB W B v e) ∨ (is = false ∧ endF l = none ∧ v = .slice none 0 0)
/-- What End answers. -/
def EndEnd (W : World) (l : List UInt8) (e : Ending) (w' : World) : Prop := ∃ v is, e = .returned (.tuple #[v, .bool is]) ∧ EndIs w' W.heap.size l v is ∧ Below W.heap.size W w'
theorem endEnd_mk {W w' : World} {l : List UInt8} {v : Value} {is : Bool} (h : EndIs w' W.heap.size l v is) (hb : Below W.heap.size W w') : EndEnd W l (.returned (.tuple #[v, .bool is])) w' := ⟨v, is, rfl, h, hb⟩

/-- all that was handed on so far are bytes 255 -/
def All255 {l : List UInt8} (pre : List (Pl l)) : Prop := ∀ x ∈ pre, x.c = 255
theorem backFrom_all (l : List UInt8) : ∀ j, j ≤ l.length → All255 (backFrom l j) → ∀ c ∈ l.take j, c = 255
  | 0, _, _ => by simp
  | j + 1, hj, h => fun c hc => by
    rw [backFrom_step l j (by omega)] at h
    rw [List.take_succ_eq_append_getElem (by omega), List.mem_append] at hc
    rcases hc with hc | hc
    · exact backFrom_all l j (by omega) (fun x hx => h x (by simp [hx])) c hc
    · have : c = l[j] := by simpa using hc
      rw [this]; exact h ⟨j, l[j], List.getElem?_eq_getElem (by omega)⟩ (by simp)
theorem back_none {l : List UInt8} (h : All255 (backL l)) : endF l = none := by
  refine endF_all l fun c hc => ?_
  have := backFrom_all l l.length (Nat.le_refl _) h c
  rw [List.take_length] at this
  exact this hc
/-- where a prefix of what is handed on ends -/
theorem back_pre (l : List UInt8) : ∀ (j : Nat) (pre : List (Pl l)) (x : Pl l), j ≤ l.length → pre ++ [x] <+: backFrom l j → All255 pre → (∀ d ∈ l.drop j, d = 255) → ∀ d ∈ l.drop (x.i + 1), d = 255
  | 0, pre, x, _, h, _, _ => by
    have := h.length_le
    simp [backFrom] at this
  | j + 1, pre, x, hj, h, ha, hd => by
    rw [backFrom_step l j (by omega)] at h
    have hdr : l.drop j = l[j] :: l.drop (j + 1) := List.drop_eq_getElem_cons (by omega)
    cases pre with
    | nil =>
      rw [List.nil_append, List.cons_prefix_cons] at h
      obtain ⟨rfl, _⟩ := h
      exact hd
    | cons y pre =>
      rw [List.cons_append, List.cons_prefix_cons] at h
      obtain ⟨hx, h⟩ := h
      have hx2 : l[j] = 255 := by have := ha y (by simp); rw [hx] at this; exact this
      refine back_pre l j pre x (by omega) h (fun y hy => ha y (by simp [hy])) fun d hdm => ?_
      rw [hdr] at hdm
      rcases List.mem_cons.1 hdm with e | e
      · rw [e, hx2]
      · exact hd d e
theorem pl_lt {l : List UInt8} (x : Pl l) : x.i < l.length := (List.getElem?_eq_some_iff.1 x.at_).1
theorem back_at {l : List UInt8} {pre : List (Pl l)} {x : Pl l} (h : pre ++ [x] <+: backL l) (ha : All255 pre) (hc : x.c ≠ 255) : endF l = some (l.take x.i ++ [x.c + 1]) := by
  have h3 := back_pre l l.length pre x (Nat.le_refl _) h ha (by simp)
  obtain ⟨h1, h4⟩ := List.getElem?_eq_some_iff.1 x.at_
  have h5 : l = l.take x.i ++ x.c :: l.drop (x.i + 1) := by
    rw [← h4, ← List.drop_eq_getElem_cons h1, List.take_append_drop]
  conv => lhs; rw [h5]
  exact endF_at _ _ _ h3 hc

theorem OwnB.kept {W W' : World} {B : Nat} {v : Value} {l : List UInt8} {row : Option Nat} (h : OwnB W B v l) (hg : W.grownBy W' row) (hr : ∀ r, row = some r → ∃ o : Obj, W.heap[r]? = some o ∧ o.isCells = false) : OwnB W' B v l := by
  refine World.ownsRow.kept (row := row) h hg ?_
  rcases h.2 with ⟨rfl, _⟩ | ⟨g, cap, cur, rfl, _, hgb, _⟩
  · exact .inl rfl
  · refine .inr fun e => ?_
    obtain ⟨_, ho, hc⟩ := hr g (by rw [← e]; rfl)
    rw [hgb] at ho
    cases ho
    simp [Obj.isCells] at hc
theorem OwnB.other {W : World} {B b : Nat} {t : TypeId} {u v : Value} {l : List UInt8} (h : OwnB W B v l) (hb : Boxed W b t u) (ht : t ≠ 5) (u' : Value) : OwnB (W.setCell ⟨b, 0, none⟩ u') B v l := by
  refine World.ownsRow.kept (row := some b) h (grownBy_setCell' W b u') ?_
  have h1 := hb.not_row ht h
  cases hv : v.ownBlock with
  | none => exact .inl rfl
  | some g => exact .inr (fun e => h1 (by rw [hv, e]))
theorem set_last {l : List UInt8} {i : Nat} {c : UInt8} (h : l[i]? = some c) (hc : c ≠ 255) : (cellsL (l.take (i + 1))).set i (.int .u8 ((c.toNat : Int) + 1)) = cellsL (l.take i ++ [c + 1]) := by
  obtain ⟨hi, h4⟩ := List.getElem?_eq_some_iff.1 h
  have hs : (c + 1).toNat = c.toNat + 1 := by
    have h1 := c.toNat_lt
    have : c.toNat ≠ 255 := fun e => hc (UInt8.toNat_inj.1 e)
    rw [UInt8.toNat_add]; show (c.toNat + 1) % 256 = _; omega
  have hl : (l.take i).length = i := by rw [List.length_take]; omega
  rw [List.take_succ_eq_append_getElem hi, h4, cellsL_app, cellsL_app, List.set_append, if_neg (by rw [cellsL_len]; omega)]
  congr 1
  rw [cellsL_len, hl, Nat.sub_self]
  show [Value.int .u8 ((c.toNat : Int) + 1)] = [Value.int .u8 ((c + 1).toNat : Int)]
  rw [hs]; rfl
theorem boxed_below {W W' : World} {b B : Nat} {t : TypeId} {u : Value} (h : Boxed W b t u) (hb : Below B W W') (hB : b < B) : Boxed W' b t u := (hb.block b hB).trans h
theorem boxed_far {W : World} {b : Nat} {t : TypeId} {u : Value} (h : Boxed W b t u) {p : Addr} (hp : b ≠ p.block) (x : Value) : Boxed (W.setCell p x) b t u := (Below.heap_setCell W p x b hp).trans h
theorem keepsFrom_set {W : World} {B : Nat} {p : Addr} {cs : Array Value} {t : TypeId} {fr : Nat × Nat} (h : W.heap[p.block]? = some (.cells cs t fr)) (u : Value) : KeepsFrom B W (W.setCell p u) :=
  ⟨by simp [World.setCell], fun k _ _ hk ho => by
    by_cases e : k = p.block
    · subst e; rw [h] at hk; cases hk; simp [Obj.isCells] at ho
    · exact (Below.heap_setCell W p u k e).trans hk⟩
theorem keepsFrom_below {W W' : World} {B : Nat} (h : Below W.heap.size W W') : KeepsFrom B W W' :=
  ⟨h.size, fun k _ _ hk _ => (h.block k (Array.getElem?_eq_some_iff.1 hk).1).trans hk⟩

theorem results_cells2 {fn : Func} {p q : Tmp} {ty ty' : TypeId} (h : fn.results = #[.cell p ty, .cell q ty']) (tmps : Array Value) (P : Program) (w : World) :
    (results fn tmps).run P w =
      ((asAddr (tmps.getD p undef)).run P w).andThen fun a w₁ => ((loadVar ty a).run P w₁).andThen fun v w₂ => ((asAddr (tmps.getD q undef)).run P w₂).andThen fun b w₃ => ((loadVar ty' b).run P w₃).andThen fun u w₄ => .ok (.tuple #[v, u]) w₄ := by
  simp only [results, h]
  simp [Sem.run_bind, Result.andThen]

/-- What holds between two rounds. -/
def EMid (w : World) (A : Option Addr) (c : Nat) (l : List UInt8) (pre : List (Pl l)) (W : World) : Prop :=
  All255 pre ∧ Boxed W w.heap.size 29 (.slice A l.length c) ∧ Boxed W (w.heap.size + 1) 29 (.slice none 0 0) ∧ Boxed W (w.heap.size + 1 + 1) 4 (.bool false) ∧ Boxed W (w.heap.size + 1 + 1 + 1) 29 (.slice A l.length c) ∧ Below w.heap.size w W
/-- What holds where the loop is left. -/
def EOut (w : World) (l : List UInt8) (cd : Code) (pre : List (Pl l)) (W : World) : Prop :=
  cd = .ret ∧ ∃ (v : Value) (p : List (Pl l)) (x : Pl l), pre = p ++ [x] ∧ All255 p ∧ x.c ≠ 255 ∧ Boxed W (w.heap.size + 1) 29 v ∧ Boxed W (w.heap.size + 1 + 1) 4 (.bool true) ∧ OwnB W w.heap.size v (l.take x.i ++ [x.c + 1]) ∧ Below w.heap.size w W
theorem eMid_own (w : World) (A : Option Addr) (c : Nat) (l : List UInt8) : OwnFrom (w.heap.size + 1 + 1 + 1 + 1) (EMid w A c l) := fun pre X Y row ⟨hp, h1, h2, h3, h4, h5⟩ hg hr => by
  have hne : ∀ b, b < w.heap.size + 1 + 1 + 1 + 1 → some b ≠ row := fun b hb e => by have := (hr b e.symm).1; omega
  exact ⟨hp, h1.kept hg (hne _ (by omega)), h2.kept hg (hne _ (by omega)), h3.kept hg (hne _ (by omega)), h4.kept hg (hne _ (by omega)), h5.grown hg h5.size (fun j ej => by have := (hr j ej).1; omega)⟩
theorem eOut_own (w : World) (l : List UInt8) (cd : Code) : OwnFrom (w.heap.size + 1 + 1 + 1 + 1) (EOut w l cd) := fun pre X Y row ⟨hc, v, p, x, hp, ha, h255, h2, h3, ho, h5⟩ hg hr => by
  have hne : ∀ b, b < w.heap.size + 1 + 1 + 1 + 1 → some b ≠ row := fun b hb e => by have := (hr b e.symm).1; omega
  exact ⟨hc, v, p, x, hp, ha, h255, h2.kept hg (hne _ (by omega)), h3.kept hg (hne _ (by omega)), ho.kept hg (fun r e => (hr r e).2), h5.grown hg h5.size (fun j ej => by have := (hr j ej).1; omega)⟩

set_option maxRecDepth 100000 in
set_option maxHeartbeats 4000000 in
theorem end_in (m : Nat) (hm3 : Hid (3 ≤ m)) (A : Option Addr) (c : Nat) (l : List UInt8) (w : World) (hs : SlB w w.heap.size A l) (hl : l.length ≤ 20000) (hlc : l.length ≤ c) :
    CallsIn Fence.wide m Try.prog 18 #[.slice A l.length c] w (EndEnd w l) := by
  refine callsIn_of_wp_marks Try.func18 rfl trivial ?_ rfl
  simp only [Try.ntmps18, List.size_toArray, List.length_cons, List.length_nil, Nat.reduceAdd, Nat.reduceSub, Array.replicate_succ, Array.replicate_zero, List.push_toArray, List.append_toArray, List.nil_append, List.cons_append]
  gi_wp2_with fail
  refine ⟨trivial, wide_deep _, ?_⟩
  refine (callsIn_wide.2 (backOf_any _ _ _ _)).mono ?_
  rintro e w2 ⟨rfl, rfl⟩
  gi_wp2_with fail
  obtain ⟨W2, hW2⟩ : ∃ W2, ((((w.alloc (.cells #[.slice A l.length c] 29)).alloc (.cells #[.slice none 0 0] 29)).alloc (.cells #[.bool false] 4)).alloc (.cells #[.slice A l.length c] 29)) = W2 := ⟨_, rfl⟩
  have hz : W2.heap.size = w.heap.size + 1 + 1 + 1 + 1 := by rw [← hW2]; simp
  have hmid : EMid w A c l [] W2 := by
    rw [← hW2]
    refine ⟨fun x hx => by simp at hx, ?_, ?_, ?_, ?_, ?_⟩
    · exact (((Boxed.new w 29 (.slice A l.length c)).alloc _).alloc _).alloc _
    · have := Boxed.new (w.alloc (.cells #[.slice A l.length c] 29)) 29 (.slice none 0 0)
      rw [World.size_alloc] at this
      exact (this.alloc _).alloc _
    · have := Boxed.new ((w.alloc (.cells #[.slice A l.length c] 29)).alloc (.cells #[.slice none 0 0] 29)) 4 (.bool false)
      rw [World.size_alloc, World.size_alloc] at this
      exact this.alloc _
    · have := Boxed.new (((w.alloc (.cells #[.slice A l.length c] 29)).alloc (.cells #[.slice none 0 0] 29)).alloc (.cells #[.bool false] 4)) 29 (.slice A l.length c)
      rw [World.size_alloc, World.size_alloc, World.size_alloc] at this
      exact this
    · exact ((((Below.refl _ _).alloc (Nat.le_refl _) _).alloc (by simp) _).alloc (by simp; omega) _).alloc (by simp; omega) _
  rw [hW2]
  have hB2 : Below w.heap.size w W2 := hmid.2.2.2.2.2
  have hV := hmid.2.2.2.2.1
  have hs2 : SlB W2 w.heap.size A l := hs.next hB2 (Nat.le_refl _)
  have hro : Fence.wide.round = none := rfl
  clear hW2
  refine wpIn_rangeFunc_ownG hro (by have := hm3.out; omega) (gf := 82) (lb := #[.pointer (some ⟨w.heap.size + 1 + 1 + 1, 0, none⟩)]) rfl trivial (enters_of Try.func82 (by kernel_rfl) rfl)
    (back_stops (m - 1) w.heap.size (w.heap.size + 1 + 1 + 1) A c l hl W2 (by omega) (by omega) hs2 hV.cell) Keeps.trans (keeps_b (by omega) (by omega)) (Below.refl _ _) (fun _ => rfl)
    (EMid w A c l) (EOut w l) (by rw [hz]; exact eMid_own w A c l) (fun c => by rw [hz]; exact eOut_own w l c)
    hmid
    (fun x => { tmps := #[.slice A l.length c, .pointer (some ⟨w.heap.size, 0, none⟩), .pointer (some ⟨w.heap.size + 1, 0, none⟩), .pointer (some ⟨w.heap.size + 1 + 1, 0, none⟩), .int .i64 (x.i : Int), .int .u8 x.c.toNat, undef, .slice A l.length c, .func (.func 82) #[] #[.pointer (some ⟨w.heap.size + 1 + 1 + 1, 0, none⟩)], .int .i64 (x.i : Int), .int .u8 x.c.toNat, undef, undef, undef, undef, undef, undef, undef, undef, undef, undef, undef, undef, undef, undef], defers := [] }) ?assign ?body ?done ?stop
  case assign =>
    intro l x W K hK
    gi_wp2
    exact hK
  case body =>
    rintro lp pre x W ⟨hp, hA, hR, hO, hV, hB⟩ hlt
    have a0 := hA.cell
    have r0 := hR.cell
    have r1 := hR.frozen
    have o0 := hO.cell
    have o1 := hO.frozen
    have HP := Lib.hid hp
    have HB := Lib.hid hB
    have HV := Lib.hid hV
    have hxl := pl_lt x
    clear hp hB hV hlt
    by_cases hc : x.c = 255
    · have hcc : ((x.c.toNat : Int) != 255) = false := by rw [hc]; rfl
      have HC := Lib.hid hc
      clear hc
      gi_wp2
      exact ⟨KeepsFrom.refl _ _, Keeps.refl _ _ _, fun y hy => by rcases List.mem_append.1 hy with h | h; exact HP.out y h; (have : y = x := by simpa using h); rw [this]; exact HC.out, hA, hR, hO, HV.out, HB.out⟩
    · have hcc : ((x.c.toNat : Int) != 255) = true := by
        have : x.c.toNat ≠ 255 := fun e => hc (UInt8.toNat_inj.1 e)
        simp; omega
      have hc254 : (x.c.toNat : Int) + 1 ≤ 255 := by
        have h1 := x.c.toNat_lt
        have : x.c.toNat ≠ 255 := fun e => hc (UInt8.toNat_inj.1 e)
        omega
      have HC := Lib.hid hc
      have hne : l ≠ [] := by
        intro e
        have h9 : l.length = 0 := by rw [e]; rfl
        omega
      have hsW : SlB W w.heap.size A l := hs.next HB.out (Nat.le_refl _)
      obtain ⟨a, ea, _, _⟩ := hsW hne
      subst ea
      have hlen : (l.take (x.i + 1)).length = x.i + 1 := by rw [List.length_take]; omega
      have hcl := clone_any a c (l.take (x.i + 1)) W (by have := hsW.take (x.i + 1); exact fun h => by obtain ⟨a', e, hlt, h9⟩ := this h; exact ⟨a', e, by have := HB.out.size; omega, h9⟩) (by omega)
      rw [hlen] at hcl
      have HCL := Lib.hid hcl
      have HLEN := Lib.hid hlen
      clear hc hcl hlen hsW
      gi_wp2_with fail
      refine ⟨trivial, wide_deep _, ?_⟩
      refine ((callsIn_wide.2 HCL.out).inRound lp).mono ?_
      rintro e w3 ⟨v6, rfl, ho, hb3⟩
      obtain ⟨g, cap, cur, rfl, hbg, hhg, _⟩ : ∃ g cap cur, v6 = .slice (some ⟨g, 0, none⟩) (x.i + 1) cap ∧ W.heap.size ≤ g ∧ w3.heap[g]? = some (.cells cur 5 (0, 0)) ∧ True := by
        rcases ho.2 with ⟨_, h0⟩ | ⟨g, cap, cur, e, hbg, hhg, _⟩
        · rw [HLEN.out] at h0; omega
        · rw [HLEN.out] at e
          exact ⟨g, cap, cur, e, hbg, hhg, trivial⟩
      have hr : w3.ownsRow W.heap.size 5 1 (.slice (some ⟨g, 0, none⟩) (x.i + 1) cap) (x.i + 1) (cellsL (l.take (x.i + 1))) := by
        have h9 : w3.ownsRow W.heap.size 5 1 (.slice (some ⟨g, 0, none⟩) (x.i + 1) cap) (l.take (x.i + 1)).length (cellsL (l.take (x.i + 1))) := ho
        rwa [HLEN.out] at h9
      have hc6 : w3.cell? ⟨g, x.i, none⟩ = some (.int .u8 x.c.toNat) := by
        rw [hr.cellAt x.i (by omega)]
        unfold cellsL
        rw [List.getElem?_map, List.getElem?_take, if_pos (by omega), x.at_]; rfl
      have hf6 := hr.frozenAt x.i
      obtain ⟨hst, hgr⟩ := hr.stored x.i (.int .u8 ((x.c.toNat : Int) + 1))
      rw [set_last x.at_ HC.out] at hst
      have hlt1 : w.heap.size + 1 + 1 + 1 < W.heap.size := HV.out.lt
      have hR3 : Boxed w3 (w.heap.size + 1) 29 (.slice none 0 0) := boxed_below hR hb3 (by omega)
      have hO3 : Boxed w3 (w.heap.size + 1 + 1) 4 (.bool false) := boxed_below hO hb3 (by omega)
      have hR4 : Boxed (w3.setCell ⟨g, x.i, none⟩ (.int .u8 ((x.c.toNat : Int) + 1))) (w.heap.size + 1) 29 (.slice none 0 0) := boxed_far hR3 (p := ⟨g, x.i, none⟩) (by show w.heap.size + 1 ≠ g; omega) _
      have hO4 : Boxed (w3.setCell ⟨g, x.i, none⟩ (.int .u8 ((x.c.toNat : Int) + 1))) (w.heap.size + 1 + 1) 4 (.bool false) := boxed_far hO3 (p := ⟨g, x.i, none⟩) (by show w.heap.size + 1 + 1 ≠ g; omega) _
      have hK4 : KeepsFrom W2.heap.size W (w3.setCell ⟨g, x.i, none⟩ (.int .u8 ((x.c.toNat : Int) + 1))) := (keepsFrom_below hb3).trans (keepsFrom_set (p := ⟨g, x.i, none⟩) hhg _)
      have hB4 : Below w.heap.size w (w3.setCell ⟨g, x.i, none⟩ (.int .u8 ((x.c.toNat : Int) + 1))) := (HB.out.trans (hb3.mono HB.out.size)).setCell (p := ⟨g, x.i, none⟩) (by show w.heap.size ≤ g; omega) _
      have hO5 : OwnB (w3.setCell ⟨g, x.i, none⟩ (.int .u8 ((x.c.toNat : Int) + 1))) w.heap.size (.slice (some ⟨g, 0, none⟩) (x.i + 1) cap) (l.take x.i ++ [x.c + 1]) := by
        have hln : (l.take x.i ++ [x.c + 1]).length = x.i + 1 := by rw [List.length_append, List.length_take]; simp; omega
        have h9 : OwnB (w3.setCell ⟨g, x.i, none⟩ (.int .u8 ((x.c.toNat : Int) + 1))) W.heap.size (.slice (some ⟨g, 0, none⟩) (x.i + 1) cap) (l.take x.i ++ [x.c + 1]) := by
          show World.ownsRow _ _ _ _ _ _ _
          rw [hln]; exact hst
        exact h9.from_ (by omega)
      have p0 := hR4.cell
      have p1 := hR4.frozen
      have p2 := hO4.cell
      have p3 := hO4.frozen
      have HR4 := Lib.hid hR4
      have HO4 := Lib.hid hO4
      have HK4 := Lib.hid hK4
      have HB4 := Lib.hid hB4
      have HO5 := Lib.hid hO5
      clear hst hgr hR3 hO3 hR4 hO4 hK4 hB4 hO5 a0 r0 r1 o0 o1 hA hR hO
      gi_wp2
      have hO5 : Boxed ((w3.setCell ⟨g, x.i, none⟩ (.int .u8 ((x.c.toNat : Int) + 1))).setCell ⟨w.heap.size + 1, 0, none⟩ (.slice (some ⟨g, 0, none⟩) (x.i + 1) cap)) (w.heap.size + 1 + 1) 4 (.bool false) := HO4.out.other (by omega) _
      exact ⟨HK4.out.trans ((keepsFrom_set (p := ⟨w.heap.size + 1, 0, none⟩) HR4.out _).trans (keepsFrom_set (p := ⟨w.heap.size + 1 + 1, 0, none⟩) hO5 _)), rfl, _, pre, x, rfl, HP.out, HC.out, (HR4.out.set _).other (by omega) _, hO5.set _, (HO5.out.other HR4.out (by decide) _).other hO5 (by decide) _, (HB4.out.setCell (p := ⟨w.heap.size + 1, 0, none⟩) (by show w.heap.size ≤ w.heap.size + 1; omega) _).setCell (p := ⟨w.heap.size + 1 + 1, 0, none⟩) (by show w.heap.size ≤ w.heap.size + 1 + 1; omega) _⟩
  case done =>
    rintro D ys W hD rfl ⟨hp, hA, hR, hO, hV, hB⟩ hK
    have r0 := hR.cell
    have r1 := hR.frozen
    have o0 := hO.cell
    have o1 := hO.frozen
    have HP := Lib.hid hp
    have HB := Lib.hid hB
    clear hp hB hV
    gi_wp2
    have hO5 : Boxed (W.setCell ⟨w.heap.size + 1, 0, none⟩ (.slice none 0 0)) (w.heap.size + 1 + 1) 4 (.bool false) := hO.other (by omega) _
    have hK2 : ((W.setCell ⟨w.heap.size + 1, 0, none⟩ (.slice none 0 0)).setCell ⟨w.heap.size + 1 + 1, 0, none⟩ (.bool false)).heap[D]? = some (.deferred (some [])) :=
      (Below.heap_setCell _ ⟨w.heap.size + 1 + 1, 0, none⟩ _ D (by show D ≠ w.heap.size + 1 + 1; omega)).trans ((Below.heap_setCell _ ⟨w.heap.size + 1, 0, none⟩ _ D (by show D ≠ w.heap.size + 1; omega)).trans hK)
    refine ⟨by simp, .inl ⟨_, _, rfl, run_takeDeferred hK2, ?_⟩⟩
    have s0 := (((hR.set (.slice none 0 0)).other (B' := w.heap.size + 1 + 1) (by omega) (.bool false)).kept (grownBy_putObj' _ D (.deferred none)) (by intro e; injection e with e; omega)).cell
    have s1 := ((hO5.set (.bool false)).kept (grownBy_putObj' _ D (.deferred none)) (by intro e; injection e with e; omega)).cell
    have hb1 : Below w.heap.size w ((W.setCell ⟨w.heap.size + 1, 0, none⟩ (.slice none 0 0)).setCell ⟨w.heap.size + 1 + 1, 0, none⟩ (.bool false)) := (HB.out.setCell (p := ⟨w.heap.size + 1, 0, none⟩) (by show w.heap.size ≤ w.heap.size + 1; omega) _).setCell (p := ⟨w.heap.size + 1 + 1, 0, none⟩) (by show w.heap.size ≤ w.heap.size + 1 + 1; omega) _
    exact ⟨.tuple #[.slice none 0 0, .bool false], (by rw [results_cells2 rfl]; go_simp), endEnd_mk (.inr ⟨rfl, back_none HP.out, rfl⟩) (hb1.trans (belowK_b (w := W2) (n₀ := w.heap.size) (by omega) _ D _ _ (by omega) hK2 rfl rfl))⟩
  case stop =>
    rintro D c pre W hD hsp ⟨rfl, v, p, x, rfl, ha, h255, hR, hO, ho, hB⟩ hK
    gi_wp2
    refine ⟨by simp, .inl ⟨_, _, rfl, run_takeDeferred hK, ?_⟩⟩
    have s0 := (hR.kept (grownBy_putObj' W D (.deferred none)) (by intro e; injection e with e; omega)).cell
    have s1 := (hO.kept (grownBy_putObj' W D (.deferred none)) (by intro e; injection e with e; omega)).cell
    have hoK : OwnB (W.putObj D (.deferred none)) w.heap.size v (l.take x.i ++ [x.c + 1]) := ho.kept (grownBy_putObj' W D (.deferred none)) (fun r e => by injection e with e; subst e; exact ⟨_, hK, rfl⟩)
    exact ⟨.tuple #[v, .bool true], (by rw [results_cells2 rfl]; go_simp), endEnd_mk (.inl ⟨rfl, _, back_at hsp ha h255, hoK⟩) (hB.trans (belowK_b (w := W2) (n₀ := w.heap.size) (by omega) W D _ _ (by omega) hK rfl rfl))⟩

theorem end_any (A : Option Addr) (c : Nat) (l : List UInt8) (w : World) (hs : SlB w w.heap.size A l) (hl : l.length ≤ 20000) (hlc : l.length ≤ c) :
    Calls Try.prog 18 #[.slice A l.length c] w (EndEnd w l) :=
  (callsIn_wide (n := 9)).1 (end_in 9 (Nat.le_of_ble_eq_true rfl) A c l w hs hl hlc)

end Go.Proofs.Ytdlkblnnnmgijaa
