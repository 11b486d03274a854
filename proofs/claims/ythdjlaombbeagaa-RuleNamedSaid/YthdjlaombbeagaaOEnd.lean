/-
  CONTRACT of End (the program's).
-/
import Derived.Test.YthdjlaombbeagaaOBack
namespace Go.Proofs.Ythdjlaombbeagaa
open Go.RowKit Go.Shelf
attribute [local go_sem] Oper.semAt_some

/-- What End leaves in the results' two cells. -/
def EndIs (W : World) (B : Nat) (l : List UInt8) (v : Value) (is : Bool) : Prop := (is = true ∧ ∃ e, endF l = some e ∧ OwnB W B v e) ∨ (is = false ∧ endF l = none ∧ v = .slice none 0 0)
/-- What End answers. -/
def EndEnd (W : World) (l : List UInt8) (e : Ending) (w' : World) : Prop := ∃ v is, e = .returned (.tuple #[v, .bool is]) ∧ EndIs w' W.heap.size l v is ∧ Below W.heap.size W w'
theorem endEnd_mk {W w' : World} {l : List UInt8} {v : Value} {is : Bool} (h : EndIs w' W.heap.size l v is) (hb : Below W.heap.size W w') : EndEnd W l (.returned (.tuple #[v, .bool is])) w' := ⟨v, is, rfl, h, hb⟩

/-- all that was handed on so far are bytes 255 -/
def All255 {l : List UInt8} (pre : List (Pl l)) : Prop := ∀ x ∈ pre, x.c = 255
theorem backFrom_all (l : List UInt8) : ∀ j, j ≤ l.length → All255 (backFrom l j) → ∀ c ∈ l.take j, c = 255
  | 0, _, _ => by simp
  | j + 1, hj, h => fun c hc => by
    rw [backFrom_step l j (by omega)] at h
    rw [List.take_succ_eq_append_getElem (by omega), List.mem_append] at hc
    rcases hc with hc | hc
    · exact backFrom_all l j (by omega) (fun x hx => h x (by simp [hx])) c hc
    · have : c = l[j] := by simpa using hc
      rw [this]; exact h ⟨j, l[j], List.getElem?_eq_getElem (by omega)⟩ (by simp)
theorem back_none {l : List UInt8} (h : All255 (backL l)) : endF l = none := by
  refine endF_all l fun c hc => ?_
  have := backFrom_all l l.length (Nat.le_refl _) h c
  rw [List.take_length] at this
  exact this hc
/-- where a prefix of what is handed on ends -/
theorem back_pre (l : List UInt8) : ∀ (j : Nat) (pre : List (Pl l)) (x : Pl l), j ≤ l.length → pre ++ [x] <+: backFrom l j → All255 pre → (∀ d ∈ l.drop j, d = 255) → ∀ d ∈ l.drop (x.i + 1), d = 255
  | 0, pre, x, _, h, _, _ => by
    have := h.length_le
    simp [backFrom] at this
  | j + 1, pre, x, hj, h, ha, hd => by
    rw [backFrom_step l j (by omega)] at h
    have hdr : l.drop j = l[j] :: l.drop (j + 1) := List.drop_eq_getElem_cons (by omega)
    cases pre with
    | nil =>
      rw [List.nil_append, List.cons_prefix_cons] at h
      obtain ⟨rfl, _⟩ := h
      exact hd
    | cons y pre =>
      rw [List.cons_append, List.cons_prefix_cons] at h
      obtain ⟨hx, h⟩ := h
      have hx2 : l[j] = 255 := by have := ha y (by simp); rw [hx] at this; exact this
      refine back_pre l j pre x (by omega) h (fun y hy => ha y (by simp [hy])) fun d hdm => ?_
      rw [hdr] at hdm
      rcases List.mem_cons.1 hdm with e | e
      · rw [e, hx2]
      · exact hd d e
theorem pl_lt {l : List UInt8} (x : Pl l) : x.i < l.length := (List.getElem?_eq_some_iff.1 x.at_).1
theorem back_at {l : List UInt8} {pre : List (Pl l)} {x : Pl l} (h : pre ++ [x] <+: backL l) (ha : All255 pre) (hc : x.c ≠ 255) : endF l = some (l.take x.i ++ [x.c + 1]) := by
  have h3 := back_pre l l.length pre x (Nat.le_refl _) h ha (by simp)
  obtain ⟨h1, h4⟩ := List.getElem?_eq_some_iff.1 x.at_
  have h5 : l = l.take x.i ++ x.c :: l.drop (x.i + 1) := by
    rw [← h4, ← List.drop_eq_getElem_cons h1, List.take_append_drop]
  conv => lhs; rw [h5]
  exact endF_at _ _ _ h3 hc

theorem OwnB.kept {W W' : World} {B : Nat} {v : Value} {l : List UInt8} {row : Option Nat} (h : OwnB W B v l) (hg : W.grownBy W' row) (hr : ∀ r, row = some r → ∃ o : Obj, W.heap[r]? = some o ∧ o.isCells = false) : OwnB W' B v l := by
  refine World.ownsRow.kept (row := row) h hg ?_
  rcases h.2 with ⟨rfl, _⟩ | ⟨g, cap, cur, rfl, _, hgb, _⟩
  · exact .inl rfl
  · refine .inr fun e => ?_
    obtain ⟨_, ho, hc⟩ := hr g (by rw [← e]; rfl)
    rw [hgb] at ho
    cases ho
    simp [Obj.isCells] at hc
theorem OwnB.other {W : World} {B b : Nat} {t : TypeId} {u v : Value} {l : List UInt8} (h : OwnB W B v l) (hb : Boxed W b t u) (ht : t ≠ 5) (u' : Value) : OwnB (W.setCell ⟨b, 0, none⟩ u') B v l := by
  refine World.ownsRow.kept (row := some b) h (grownBy_setCell' W b u') ?_
  have h1 := hb.not_row ht h
  cases hv : v.ownBlock with
  | none => exact .inl rfl
  | some g => exact .inr (fun e => h1 (by rw [hv, e]))
theorem set_last {l : List UInt8} {i : Nat} {c : UInt8} (h : l[i]? = some c) (hc : c ≠ 255) : (cellsL (l.take (i + 1))).set i (.int .u8 ((c.toNat : Int) + 1)) = cellsL (l.take i ++ [c + 1]) := by
  obtain ⟨hi, h4⟩ := List.getElem?_eq_some_iff.1 h
  have hs : (c + 1).toNat = c.toNat + 1 := by
    have h1 := c.toNat_lt
    have : c.toNat ≠ 255 := fun e => hc (UInt8.toNat_inj.1 e)
    rw [UInt8.toNat_add]; show (c.toNat + 1) % 256 = _; omega
  have hl : (l.take i).length = i := by rw [List.length_take]; omega
  rw [List.take_succ_eq_append_getElem hi, h4, cellsL_app, cellsL_app, List.set_append, if_neg (by rw [cellsL_len]; omega)]
  congr 1
  rw [cellsL_len, hl, Nat.sub_self]
  show [Value.int .u8 ((c.toNat : Int) + 1)] = [Value.int .u8 ((c + 1).toNat : Int)]
  rw [hs]; rfl
theorem boxed_below {W W' : World} {b B : Nat} {t : TypeId} {u : Value} (h : Boxed W b t u) (hb : Below B W W') (hB : b < B) : Boxed W' b t u := (hb.block b hB).trans h
theorem boxed_far {W : World} {b : Nat} {t : TypeId} {u : Value} (h : Boxed W b t u) {p : Addr} (hp : b ≠ p.block) (x : Value) : Boxed (W.setCell p x) b t u := (Below.heap_setCell W p x b hp).trans h
theorem keepsFrom_set {W : World} {B : Nat} {p : Addr} {cs : Array Value} {t : TypeId} {fr : Nat × Nat} (h : W.heap[p.block]? = some (.cells cs t fr)) (u : Value) : KeepsFrom B W (W.setCell p u) :=
  ⟨by simp [World.setCell], fun k _ _ hk ho => by
    by_cases e : k = p.block
    · subst e; rw [h] at hk; cases hk; simp [Obj.isCells] at ho
    · exact (Below.heap_setCell W p u k e).trans hk⟩
theorem keepsFrom_below {W W' : World} {B : Nat} (h : Below W.heap.size W W') : KeepsFrom B W W' :=
  ⟨h.size, fun k _ _ hk _ => (h.block k (Array.getElem?_eq_some_iff.1 hk).1).trans hk⟩

theorem results_cells2 {fn : Func} {p q : Tmp} {ty ty' : TypeId} (h : fn.results = #[.cell p ty, .cell q ty']) (tmps : Array Value) (P : Program) (w : World) :
    (results fn tmps).run P w =
      ((asAddr (tmps.getD p undef)).run P w).andThen fun a w₁ => ((loadVar ty a).run P w₁).andThen fun v w₂ => ((asAddr (tmps.getD q undef)).run P w₂).andThen fun b w₃ => ((loadVar ty' b).run P w₃).andThen fun u w₄ => .ok (.tuple #[v, u]) w₄ := by
  simp only [results, h]
  simp [Sem.run_bind, Result.andThen]

end Go.Proofs.Ythdjlaombbeagaa
