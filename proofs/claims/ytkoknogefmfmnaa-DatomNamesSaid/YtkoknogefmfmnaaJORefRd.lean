import Derived.Test.YtkoknogefmfmnaaJORdTxt
import Derived.Test.YtkoknogefmfmnaaJORdVal
import Derived.Test.YtkoknogefmfmnaaJDPure
/-
  CONTRACT: Value (the document's).
-/
namespace Go.Proofs.Ytkoknogefmfmnaa
open Go.RowKit Go.Shelf

theorem own_src {W : World} {B : Nat} {v : Value} {l : List UInt8} (h : OwnB W B v l) (hl : l ≠ []) : ∃ ad c, v = .slice (some ad) l.length c ∧ ad.block < W.heap.size ∧ ∀ j u, (cellsL l)[j]? = some u → W.cell? (ad.add j) = some u := by
  obtain ⟨A, c, rfl⟩ := ownB_form h
  obtain ⟨ad, rfl, hlt, hc⟩ := (SlB.of_own h).2 hl
  exact ⟨ad, c, rfl, hlt, fun j u hu => by obtain ⟨x, hx, rfl⟩ := cellsL_at hu; exact hc j x hx⟩
theorem numB_ne (n : Int) : numB n ≠ [] := by
  intro e
  have := congrArg List.length e
  rw [numB_len] at this
  cases this

end Go.Proofs.Ytkoknogefmfmnaa

/-
  CONTRACT: one (the document's reader of a value).
-/
namespace Go.Proofs.Ytkoknogefmfmnaa
open Go.RowKit Go.Shelf

theorem results_cell_tmp1 {fn : Func} {p q : Tmp} {ty : TypeId} (h : fn.results = #[.cell p ty, .tmp q]) (tmps : Array Value) (P : Program) (w : World) :
    (results fn tmps).run P w =
      ((asAddr (tmps.getD p undef)).run P w).andThen fun a w₁ => ((loadVar ty a).run P w₁).andThen fun v w₂ => .ok (.tuple #[v, tmps.getD q undef]) w₂ := by
  simp only [results, h]
  simp [Sem.run_bind, Result.andThen]
/-- What one answers. -/
def OneRd (W : World) (l : List UInt8) (e : Ending) (w' : World) : Prop :=
  ((∃ k n s t, oneR l = some ((k, n, s), t) ∧ e = .returned (.tuple #[valV k n ⟨s.toArray⟩, .int .i64 ((l.length - t.length : Nat) : Int)])) ∨
  (oneR l = none ∧ ∃ (x y : Int) (z : ByteArray), e = .returned (.tuple #[.agg #[.int .i64 x, .int .i64 y, .string z], .int .i64 0]))) ∧ Below W.heap.size W w'
theorem oneR_one (c : UInt8) : oneR [c] = none := by
  simp only [oneR, txtR]
  split
  · rfl
  · split
    · simp
    · split <;> rfl

end Go.Proofs.Ytkoknogefmfmnaa

/-
  CONTRACT: Read (the document's).
-/
namespace Go.Proofs.Ytkoknogefmfmnaa
open Go.RowKit Go.Shelf

theorem txtR_suf : ∀ {l s u : List UInt8}, txtR l = some (s, u) → u <:+ l
  | [], _, _, h => by cases h
  | [_], _, _, h => by cases h
  | c :: d :: r, s, u, h => by
    rw [txtR] at h
    by_cases hc : c = 0
    · rw [if_pos hc] at h
      by_cases h1 : d = 1
      · rw [if_pos h1] at h
        cases h
        exact ⟨[c, d], rfl⟩
      · rw [if_neg h1] at h
        by_cases h2 : d = 255
        · rw [if_pos h2] at h
          cases hr : txtR r with
          | none => rw [hr] at h; cases h
          | some p =>
            obtain ⟨s', u'⟩ := p
            rw [hr] at h
            have := txtR_suf hr
            cases h
            exact this.trans ⟨[c, d], rfl⟩
        · rw [if_neg h2] at h; cases h
    · rw [if_neg hc] at h
      cases hr : txtR (d :: r) with
      | none => rw [hr] at h; cases h
      | some p =>
        obtain ⟨s', u'⟩ := p
        rw [hr] at h
        have := txtR_suf hr
        cases h
        exact this.trans ⟨[c], rfl⟩
theorem oneR_suf {l t : List UInt8} {x : Int × Int × List UInt8} (h : oneR l = some (x, t)) : t <:+ l ∧ t.length < l.length := by
  cases l with
  | nil => cases h
  | cons c r =>
    simp only [oneR] at h
    by_cases h2 : c = 2
    · rw [if_pos h2] at h
      cases r with
      | nil => cases h
      | cons d u =>
        simp only at h
        split at h
        · cases h; exact ⟨⟨[c, d], rfl⟩, by simp only [List.length_cons]; omega⟩
        · cases h
    · rw [if_neg h2] at h
      by_cases h1 : c = 1 ∨ c = 5 ∨ c = 6
      · rw [if_pos h1] at h
        split at h
        · cases h; exact ⟨(List.drop_suffix 8 r).trans ⟨[c], rfl⟩, by simp only [List.length_cons, List.length_drop]; omega⟩
        · cases h
      · rw [if_neg h1] at h
        by_cases h3 : c = 3 ∨ c = 4 ∨ c = 7
        · rw [if_pos h3] at h
          cases hr : txtR r with
          | none => rw [hr] at h; cases h
          | some p =>
            obtain ⟨s, u⟩ := p
            rw [hr] at h
            simp only at h
            have h5 := txtR_suf hr
            have h6 := h5.length_le
            split at h
            · cases h; exact ⟨h5.trans ⟨[c], rfl⟩, by simp only [List.length_cons]; omega⟩
            · cases h
        · rw [if_neg h3] at h; cases h
theorem suf_drop {l t : List UInt8} (h : t <:+ l) : t = l.drop (l.length - t.length) := List.suffix_iff_eq_drop.1 h

/-- what was read up to a place -/
def RdAt (ks : List Bool) (b : List UInt8) (i at_ : Nat) (acc : List PartP) : Prop :=
  ∃ pre : List (PartP × List UInt8), pre.length = i ∧ pre.map (·.1) = acc ∧ pre ++ tellL (ks.drop i) (b.drop at_) = tellL ks b ∧ (pre.getLast?.map (·.2)).getD b = b.drop at_
theorem rdAt_start (ks : List Bool) (b : List UInt8) : RdAt ks b 0 0 [] := ⟨[], rfl, rfl, rfl, rfl⟩
theorem rdAt_step {ks : List Bool} {b t : List UInt8} {i at_ at' : Nat} {acc : List PartP} {p : PartP} (h : RdAt ks b i at_ acc) (hi : i < ks.length) (hp : partR ks[i] (b.drop at_) = some (p, t)) (ht : t = b.drop at') : RdAt ks b (i + 1) at' (acc ++ [p]) := by
  obtain ⟨pre, h1, h2, h3, _⟩ := h
  rw [List.drop_eq_getElem_cons hi, tellL, hp] at h3
  refine ⟨pre ++ [(p, t)], by rw [List.length_append, h1]; rfl, by rw [List.map_append, h2]; rfl, ?_, ?_⟩
  · rw [← h3, ← ht, List.append_assoc]; rfl
  · rw [List.getLast?_append]; simp [ht]
theorem rdAt_fail {ks : List Bool} {b : List UInt8} {i at_ : Nat} {acc : List PartP} (h : RdAt ks b i at_ acc) (hi : i < ks.length) (hp : partR ks[i] (b.drop at_) = none) : readL ks b = none := by
  obtain ⟨pre, h1, h2, h3, _⟩ := h
  rw [List.drop_eq_getElem_cons hi, tellL, hp, List.append_nil] at h3
  unfold readL
  rw [if_neg]
  intro h
  rw [← h3] at h
  omega
theorem rdAt_end {ks : List Bool} {b : List UInt8} {i at_ : Nat} {acc : List PartP} (h : RdAt ks b i at_ acc) (hi : i = ks.length) : readL ks b = if b.length ≤ at_ then some acc else none := by
  obtain ⟨pre, h1, h2, h3, h4⟩ := h
  rw [List.drop_of_length_le (by omega), tellL, List.append_nil] at h3
  unfold readL
  rw [← h3, h4, h2]
  by_cases hb : b.length ≤ at_
  · rw [if_pos hb, if_pos ⟨by omega, List.drop_of_length_le hb⟩]
  · rw [if_neg hb, if_neg]
    intro h
    have := congrArg List.length h.2
    rw [List.length_drop] at this
    simp at this
    omega

/-- where a slice's rest stands -/
def cutA (A : Option Addr) (c k : Nat) : Option Addr := if c = k then A else A.map (·.add k)
theorem slice8_from (A : Option Addr) (n c k : Nat) (hk : k ≤ n) (w : World) : (Instr.slice 39 (.slice A n c) (some (.int .i64 (k : Int))) none none).run Try.prog w = .ok (.slice (cutA A c k) (n - k) (c - k)) w := by
  have hT : Try.prog.underlying 39 = some (.slice (Try.prog.elem 39)) := by kernel_rfl
  have hS : (Go.sizeOf (Try.prog.elem 39)).run Try.prog w = .ok 1 w := by kernel_rfl
  rw [run_slice_l (w := w) 39 A n c hT .i64 (k : Int) (by omega) (by omega), hS]
  simp [Result.andThen, sliced, cutA]
theorem SlB.cutAt {W : World} {B : Nat} {A : Option Addr} {l : List UInt8} (h : SlB W B A l) {c : Nat} (hlc : l.length ≤ c) (k : Nat) : SlB W B (cutA A c k) (l.drop k) := by
  cases A with
  | none =>
    have h0 : l = [] := by
      by_cases hl : l = []
      · exact hl
      · obtain ⟨a, e, _⟩ := h hl
        cases e
    subst h0
    intro hl
    simp at hl
  | some a =>
    unfold cutA
    intro hl
    have hk : k < l.length := by
      refine Nat.lt_of_not_le fun e => hl ?_
      rw [List.drop_of_length_le e]
    have hck : c ≠ k := by omega
    rw [if_neg hck]
    obtain ⟨a', e, hlt, hc⟩ := h (by intro e; rw [e] at hk; simp at hk)
    cases e
    refine ⟨a.add k, rfl, by rw [add_block]; exact hlt, fun j x hx => ?_⟩
    rw [List.getElem?_drop] at hx
    rw [Go.Deep.add_add]
    exact hc _ x hx

theorem below_ownP {W w1 : World} {B : Nat} {v : Value} {l : List PartP} (h : OwnP W B v l) (hg : W.grownBy w1 v.ownBlock) (hB : B ≤ W.heap.size) : Below B W w1 :=
  (Below.refl B W).grown hg hB (fun k hk => (World.ownsRow.lt h k hk).1)
theorem OwnP.next {W W' : World} {B : Nat} {v : Value} {l : List PartP} (h : OwnP W B v l) (hb : Below W.heap.size W W') : OwnP W' B v l := h.kept (row := none) ⟨hb.os, hb.tape, hb.output, hb.size, fun k hk _ => hb.block k hk⟩ (fun r e => (by cases e))
theorem ownP_snoc {W : World} {B : Nat} {v : Value} {l : List PartP} {p : PartP} (h : W.ownsRow B 45 5 v (l.length + 1) (l.flatMap cellsP ++ cellsP p)) : OwnP W B v (l ++ [p]) := by
  show World.ownsRow _ _ _ _ _ _ _
  simpa using h

end Go.Proofs.Ytkoknogefmfmnaa
