import Derived.Test.YthbighnkohjfnaaGreatDoorJTNRef
import Derived.Lib.LastIndexByte
import Derived.Test.YthbighnkohjfnaaGreatDoorJTNMid
import Derived.Lib.IndexBytes
import Derived.Deep.Draws
import Derived.BigQuiet
import Derived.Laws.StructEq
import Derived.Deep.RegionWith
/-
  PLAIN: how a text is read into nodes (layer 5): by the document, from a place on; and token by token. Both are one.
-/
namespace Go.Proofs.YthbighnkohjfnaaGreatDoor

abbrev Bs := List UInt8
/-- a node: kind, value (kind, number, text), name, kids, and its place in the text -/
inductive PN where
  | mk (k vk vn : Int) (vs s : Bs) (kids : List PN) (at_ : Nat)
def blankC (c : UInt8) : Bool := c == 32 || c == 9 || c == 10 || c == 13
/-- what a bracket opens: the kind, and the bracket that closes it -/
def openC (c : UInt8) : Option (Int × UInt8) := if c = 40 then some (3, 41) else if c = 91 then some (4, 93) else if c = 123 then some (5, 125) else none
def closeC (c : UInt8) : Bool := c == 41 || c == 93 || c == 125
def wordC (c : UInt8) : Bool := decide (33 ≤ c.toNat ∧ c.toNat ≤ 126) && !([40, 41, 91, 93, 123, 125, 34, 59] : List UInt8).contains c
/-- what may stand behind a word -/
def fitC (c : UInt8) : Bool := ([32, 9, 10, 13, 40, 41, 91, 93, 123, 125, 59] : List UInt8).contains c
/-- how many bytes are blanks and remarks (within one already?) -/
def skipN : Bool → Bs → Nat
  | _, [] => 0
  | true, c :: r => if c = 10 then skipN false r + 1 else skipN true r + 1
  | false, c :: r => if c = 59 then skipN true r + 1 else if blankC c then skipN false r + 1 else 0
/-- how long a word is; none: it has no end -/
def wordN : Bs → Option Nat
  | [] => some 0
  | c :: r => if c = 34 then (if r.contains 34 then some ((r.takeWhile (fun b => b != 34)).length + 2) else none) else some ((c :: r).takeWhile wordC).length
/-- a word's node: a value's, or a name's -/
def wordOf (pv : Bs → Option (Int × Int × Bs)) (w : Bs) (p : Nat) : Option PN :=
  match pv w with
  | some v => some (.mk 1 v.1 v.2.1 v.2.2 [] [] p)
  | none => if namR w then some (.mk 2 0 0 [] w [] p) else none
/-- what comes of reading: where it goes wrong; or nodes, and what is left, from where on, and how many nodes there are -/
inductive Rd (α : Type) where
  | bad (p : Nat)
  | ok (x : α) (s : Bs) (p many : Nat)
/-- the next token: none; a bracket that closes, or opens; a word; a fault -/
inductive TkC where
  | fin (q : Nat)
  | cls (c : UInt8) (r : Bs) (q : Nat)
  | opn (k : Int) (c : UInt8) (r : Bs) (q : Nat)
  | wrd (w t : Bs) (q : Nat)
  | flt (b : Nat)
def tokC (s : Bs) (p : Nat) : TkC :=
  match s.drop (skipN false s) with
  | [] => .fin (p + skipN false s)
  | c :: r => match openC c with
    | some kc => .opn kc.1 kc.2 r (p + skipN false s)
    | none => if closeC c then .cls c r (p + skipN false s) else match wordN (c :: r) with
      | none => .flt (p + skipN false s + (c :: r).length)
      | some 0 => .flt (p + skipN false s)
      | some (n + 1) => .wrd ((c :: r).take (n + 1)) ((c :: r).drop (n + 1)) (p + skipN false s)
def fitsB : Bs → Bool
  | [] => true
  | b :: _ => fitC b
/-- what is left behind a token is less -/
def TkC.rest : TkC → Bs
  | .fin _ => []
  | .cls _ r _ => r
  | .opn _ _ r _ => r
  | .wrd _ t _ => t
  | .flt _ => []
theorem tokC_less (s : Bs) (p : Nat) : (∃ q, tokC s p = .fin q) ∨ (∃ b, tokC s p = .flt b) ∨ (tokC s p).rest.length < s.length := by
  have hd : (s.drop (skipN false s)).length ≤ s.length := by rw [List.length_drop]; omega
  unfold tokC
  cases hs : s.drop (skipN false s) with
  | nil => exact .inl ⟨_, rfl⟩
  | cons c r =>
    rw [hs] at hd
    simp only [List.length_cons] at hd
    refine .inr ?_
    dsimp only
    cases openC c with
    | some kc => exact .inr (show r.length < s.length by omega)
    | none =>
      dsimp only
      by_cases hc : closeC c = true
      · rw [if_pos hc]; exact .inr (show r.length < s.length by omega)
      · rw [if_neg hc]
        cases wordN (c :: r) with
        | none => exact .inl ⟨_, rfl⟩
        | some n =>
          cases n with
          | zero => exact .inl ⟨_, rfl⟩
          | succ n =>
            refine .inr (show ((c :: r).drop (n + 1)).length < s.length from ?_)
            rw [List.length_drop, List.length_cons]
            omega

section
variable (pv : Bs → Option (Int × Int × Bs))
/-- the document's nodes, up to a bracket that closes -/
def nodesD : Nat → Option UInt8 → Bs → Nat → Nat → Nat → Rd (List PN)
  | 0, _, _, p, _, _ => .bad p
  | f + 1, e, s, p, many, deep =>
    match tokC s p with
    | .fin q => if e = none then .ok [] [] q many else .bad q
    | .cls c r q => if e = some c then .ok [] r (q + 1) many else .bad q
    | .flt b => .bad b
    | .opn k c r q => if 50 ≤ deep ∨ 5000 ≤ many then .bad q else match nodesD f (some c) r (q + 1) (many + 1) (deep + 1) with
      | .bad b => .bad b
      | .ok kids s2 p2 m2 => match nodesD f e s2 p2 m2 deep with
        | .bad b => .bad b
        | .ok l s3 p3 m3 => .ok (.mk k 0 0 [] [] kids q :: l) s3 p3 m3
    | .wrd w t q => if 5000 ≤ many then .bad q else match wordOf pv w q with
      | none => .bad q
      | some x => if fitsB t then match nodesD f e t (q + w.length) (many + 1) deep with
          | .bad b => .bad b
          | .ok l s3 p3 m3 => .ok (x :: l) s3 p3 m3
        else .bad (q + w.length)
/-- what has been read, token by token: the nodes within no bracket; the brackets that are open, the innermost first (its kind, what closes it, its place, its kids); how many nodes -/
structure StT where
  done : List PN
  open_ : List (Int × UInt8 × Nat × List PN)
  size : Nat
def StT.add (st : StT) (x : PN) : StT := match st.open_ with
  | [] => { st with done := st.done ++ [x] }
  | (k, c, p, l) :: o => { st with open_ := (k, c, p, l ++ [x]) :: o }
/-- the text's tokens, taken one by one -/
def tokR : Nat → StT → Bs → Nat → Rd (List PN)
  | 0, _, _, p => .bad p
  | f + 1, st, s, p =>
    match tokC s p with
    | .fin q => if st.open_ = [] then .ok st.done [] q st.size else .bad q
    | .cls c r q => match st.open_ with
      | [] => .bad q
      | (k, c', a, l) :: o => if c' = c then tokR f (StT.add { st with open_ := o } (.mk k 0 0 [] [] l a)) r (q + 1) else .bad q
    | .flt b => .bad b
    | .opn k c r q => if 50 ≤ st.open_.length ∨ 5000 ≤ st.size then .bad q else tokR f { st with open_ := (k, c, q, []) :: st.open_, size := st.size + 1 } r (q + 1)
    | .wrd w t q => if 5000 ≤ st.size then .bad q else match wordOf pv w q with
      | none => .bad q
      | some x => if fitsB t then tokR f (StT.add { st with size := st.size + 1 } x) t (q + w.length) else .bad (q + w.length)
section
variable {pv} {f : Nat} {e : Option UInt8} {s : Bs} {p many deep q b : Nat} {c : UInt8} {r w t : Bs} {k : Int} {st : StT}
theorem nodesD_fin (h : tokC s p = .fin q) : nodesD pv (f + 1) e s p many deep = if e = none then .ok [] [] q many else .bad q := by rw [nodesD, h]
theorem nodesD_cls (h : tokC s p = .cls c r q) : nodesD pv (f + 1) e s p many deep = if e = some c then .ok [] r (q + 1) many else .bad q := by rw [nodesD, h]
theorem nodesD_flt (h : tokC s p = .flt b) : nodesD pv (f + 1) e s p many deep = .bad b := by rw [nodesD, h]
theorem nodesD_opn (h : tokC s p = .opn k c r q) : nodesD pv (f + 1) e s p many deep = if 50 ≤ deep ∨ 5000 ≤ many then .bad q else match nodesD pv f (some c) r (q + 1) (many + 1) (deep + 1) with
      | .bad b => .bad b
      | .ok kids s2 p2 m2 => match nodesD pv f e s2 p2 m2 deep with
        | .bad b => .bad b
        | .ok l s3 p3 m3 => .ok (.mk k 0 0 [] [] kids q :: l) s3 p3 m3 := by rw [nodesD, h]
theorem nodesD_wrd (h : tokC s p = .wrd w t q) : nodesD pv (f + 1) e s p many deep = if 5000 ≤ many then .bad q else match wordOf pv w q with
      | none => .bad q
      | some x => if fitsB t then match nodesD pv f e t (q + w.length) (many + 1) deep with
          | .bad b => .bad b
          | .ok l s3 p3 m3 => .ok (x :: l) s3 p3 m3
        else .bad (q + w.length) := by rw [nodesD, h]
theorem tokR_fin (h : tokC s p = .fin q) : tokR pv (f + 1) st s p = if st.open_ = [] then .ok st.done [] q st.size else .bad q := by rw [tokR, h]
theorem tokR_cls0 (h : tokC s p = .cls c r q) (ho : st.open_ = []) : tokR pv (f + 1) st s p = .bad q := by rw [tokR, h]; simp only [ho]
theorem tokR_cls {c' : UInt8} {a : Nat} {l : List PN} {o : List (Int × UInt8 × Nat × List PN)} (h : tokC s p = .cls c r q) (ho : st.open_ = (k, c', a, l) :: o) : tokR pv (f + 1) st s p = if c' = c then tokR pv f (StT.add { st with open_ := o } (.mk k 0 0 [] [] l a)) r (q + 1) else .bad q := by rw [tokR, h]; simp only [ho]
theorem tokR_flt (h : tokC s p = .flt b) : tokR pv (f + 1) st s p = .bad b := by rw [tokR, h]
theorem tokR_opn (h : tokC s p = .opn k c r q) : tokR pv (f + 1) st s p = if 50 ≤ st.open_.length ∨ 5000 ≤ st.size then .bad q else tokR pv f { st with open_ := (k, c, q, []) :: st.open_, size := st.size + 1 } r (q + 1) := by rw [tokR, h]
theorem tokR_wrd (h : tokC s p = .wrd w t q) : tokR pv (f + 1) st s p = if 5000 ≤ st.size then .bad q else match wordOf pv w q with
      | none => .bad q
      | some x => if fitsB t then tokR pv f (StT.add { st with size := st.size + 1 } x) t (q + w.length) else .bad (q + w.length) := by rw [tokR, h]
end
theorem tokR_more : ∀ (F F' : Nat) (st : StT) (s : Bs) (p : Nat), s.length < F → s.length < F' → tokR pv F st s p = tokR pv F' st s p
  | 0, _, _, _, _, h, _ => absurd h (Nat.not_lt_zero _)
  | _ + 1, 0, _, _, _, _, h => absurd h (Nat.not_lt_zero _)
  | F + 1, F' + 1, st, s, p, h, h' => by
    have hl := tokC_less s p
    cases ht : tokC s p with
    | fin q => rw [tokR_fin ht, tokR_fin ht]
    | flt b => rw [tokR_flt ht, tokR_flt ht]
    | cls c r q =>
      rw [ht] at hl
      have hr : r.length < s.length := by rcases hl with ⟨_, e⟩ | ⟨_, e⟩ | e; cases e; cases e; exact e
      cases ho : st.open_ with
      | nil => rw [tokR_cls0 ht ho, tokR_cls0 ht ho]
      | cons x o =>
        obtain ⟨k, c', a, l⟩ := x
        rw [tokR_cls ht ho, tokR_cls ht ho, tokR_more F F' _ r _ (by omega) (by omega)]
    | opn k c r q =>
      rw [ht] at hl
      have hr : r.length < s.length := by rcases hl with ⟨_, e⟩ | ⟨_, e⟩ | e; cases e; cases e; exact e
      rw [tokR_opn ht, tokR_opn ht, tokR_more F F' _ r _ (by omega) (by omega)]
    | wrd w t q =>
      rw [ht] at hl
      have hr : t.length < s.length := by rcases hl with ⟨_, e⟩ | ⟨_, e⟩ | e; cases e; cases e; exact e
      rw [tokR_wrd ht, tokR_wrd ht]
      cases wordOf pv w q with
      | none => rfl
      | some x =>
        dsimp only
        rw [tokR_more F F' _ t _ (by omega) (by omega)]
/-- nodes put behind what has been read -/
def StT.adds (st : StT) (l : List PN) : StT := l.foldl StT.add st
theorem StT.add_open (st : StT) (x : PN) : (st.add x).size = st.size ∧ ((st.open_ = [] ∧ st.add x = { st with done := st.done ++ [x] }) ∨ ∃ k c a l o, st.open_ = (k, c, a, l) :: o ∧ st.add x = { st with open_ := (k, c, a, l ++ [x]) :: o }) := by
  unfold StT.add
  cases ho : st.open_ with
  | nil => exact ⟨rfl, .inl ⟨rfl, rfl⟩⟩
  | cons y o => obtain ⟨k, c, a, l⟩ := y; exact ⟨rfl, .inr ⟨k, c, a, l, o, rfl, rfl⟩⟩
theorem StT.adds_is : ∀ (l : List PN) (st : StT), (st.adds l).size = st.size ∧ ((st.open_ = [] ∧ st.adds l = { st with done := st.done ++ l }) ∨ ∃ k c a m o, st.open_ = (k, c, a, m) :: o ∧ st.adds l = { st with open_ := (k, c, a, m ++ l) :: o })
  | [], st => by
    refine ⟨rfl, ?_⟩
    cases ho : st.open_ with
    | nil => exact .inl ⟨rfl, by show st = _; rw [List.append_nil, ← ho]⟩
    | cons y o => obtain ⟨k, c, a, m⟩ := y; exact .inr ⟨k, c, a, m, o, rfl, by show st = _; rw [List.append_nil, ← ho]⟩
  | x :: l, st => by
    obtain ⟨h1, h2⟩ := StT.add_open st x
    obtain ⟨k1, k2⟩ := StT.adds_is l (st.add x)
    refine ⟨k1.trans h1, ?_⟩
    rcases h2 with ⟨g1, g2⟩ | ⟨k, c, a, m, o, g1, g2⟩
    · refine .inl ⟨g1, ?_⟩
      rcases k2 with ⟨_, e⟩ | ⟨k, c, a, m, o, e, _⟩
      · show (st.add x).adds l = _
        rw [e, g2]
        simp
      · rw [g2] at e
        simp [g1] at e
    · refine .inr ⟨k, c, a, m, o, g1, ?_⟩
      rcases k2 with ⟨e, _⟩ | ⟨k', c', a', m', o', e, e2⟩
      · rw [g2] at e
        cases e
      · rw [g2] at e
        injection e with e3 e4
        cases e3
        subst e4
        show (st.add x).adds l = _
        rw [e2, g2]
        simp
/-- what stands open, and what closes it -/
def EndIs (st : StT) (e : Option UInt8) : Prop := (e = none ∧ st.open_ = []) ∨ ∃ k c a l o, e = some c ∧ st.open_ = (k, c, a, l) :: o
theorem EndIs.add {st : StT} {e : Option UInt8} (h : EndIs st e) (x : PN) : EndIs (st.add x) e ∧ (st.add x).open_.length = st.open_.length := by
  obtain ⟨_, h2⟩ := StT.add_open st x
  rcases h with ⟨h0, h1⟩ | ⟨k, c, a, l, o, h0, h1⟩
  · rcases h2 with ⟨_, g⟩ | ⟨k, c, a, l, o, g, _⟩
    · rw [g]; exact ⟨.inl ⟨h0, h1⟩, rfl⟩
    · rw [h1] at g; cases g
  · rcases h2 with ⟨g, _⟩ | ⟨k', c', a', l', o', g, g2⟩
    · rw [h1] at g; cases g
    · rw [h1] at g
      injection g with g3 g4
      cases g3
      subst g4
      rw [g2, h1]
      exact ⟨.inr ⟨k, c, a, l ++ [x], o, h0, rfl⟩, rfl⟩
/-- the bracket that is open closes -/
def StT.shut (st : StT) : StT := match st.open_ with
  | [] => st
  | (k, _, a, l) :: o => StT.add { st with open_ := o } (.mk k 0 0 [] [] l a)
theorem StT.behind (st : StT) (x : PN) (l : List PN) (m m4 : Nat) : StT.shut { (StT.add { st with size := m } x).adds l with size := m4 } = StT.shut { st.adds (x :: l) with size := m4 } ∧ (StT.add { st with size := m } x).done ++ l = st.done ++ (if st.open_ = [] then x :: l else l) := by
  obtain ⟨_, h1⟩ := StT.adds_is l (StT.add { st with size := m } x)
  obtain ⟨_, h2⟩ := StT.adds_is (x :: l) st
  obtain ⟨_, h3⟩ := StT.add_open { st with size := m } x
  rcases h3 with ⟨g, g2⟩ | ⟨k, c, a, l0, o, g, g2⟩
  · have g : st.open_ = [] := g
    rcases h2 with ⟨_, k2⟩ | ⟨_, _, _, _, _, k1, _⟩
    · rcases h1 with ⟨_, k3⟩ | ⟨_, _, _, _, _, k1, _⟩
      · rw [k3, k2, g2, if_pos g]
        simp [g]
      · rw [g2] at k1
        rw [show ({ st with size := m, done := st.done ++ [x] } : StT).open_ = st.open_ from rfl, g] at k1
        cases k1
    · rw [g] at k1; cases k1
  · have g : st.open_ = (k, c, a, l0) :: o := g
    rcases h2 with ⟨k1, _⟩ | ⟨_, _, _, _, _, k1, k2⟩
    · rw [g] at k1; cases k1
    · rw [g] at k1
      injection k1 with k3 k4
      cases k3
      subst k4
      rcases h1 with ⟨k1, _⟩ | ⟨_, _, _, _, _, k1, k5⟩
      · rw [g2] at k1; cases k1
      · rw [g2] at k1
        injection k1 with k3 k4
        cases k3
        subst k4
        rw [k5, k2, g2, if_neg (by rw [g]; exact fun e => by cases e)]
        refine ⟨?_, rfl⟩
        unfold StT.shut
        simp
/-- reading from a place on, and reading token by token, are one -/
theorem tok_is : ∀ (f : Nat) (e : Option UInt8) (s : Bs) (p many deep : Nat) (st : StT) (F : Nat), s.length < f → s.length < F → st.open_.length = deep → st.size = many → EndIs st e →
    (∀ b, nodesD pv f e s p many deep = .bad b → tokR pv F st s p = .bad b) ∧
    ∀ l s2 p2 m2, nodesD pv f e s p many deep = .ok l s2 p2 m2 → (e = none → s2 = [] ∧ tokR pv F st s p = .ok (st.done ++ l) [] p2 m2) ∧
      ∀ c, e = some c → s2.length < s.length ∧ ∀ F2, s2.length < F2 → tokR pv F st s p = tokR pv F2 (StT.shut { st.adds l with size := m2 }) s2 p2 := by
  intro f
  induction f with
  | zero => intro e s p many deep st F h; exact absurd h (Nat.not_lt_zero _)
  | succ f ih =>
    intro e s p many deep st F hf hF hd hm he
    cases F with
    | zero => exact absurd hF (Nat.not_lt_zero _)
    | succ F =>
      have hl := tokC_less s p
      cases ht : tokC s p with
      | fin q =>
        rw [nodesD_fin ht, tokR_fin ht]
        rcases he with ⟨h0, h1⟩ | ⟨k, c, a, l, o, h0, h1⟩
        · rw [if_pos h0, if_pos h1]
          refine ⟨(fun b h => by cases h), fun l s2 p2 m2 h => ?_⟩
          injection h with h1' h2 h3 h4
          subst h1' h2 h3 h4
          exact ⟨fun _ => ⟨rfl, by rw [hm, List.append_nil]⟩, fun c e2 => by rw [h0] at e2; cases e2⟩
        · rw [if_neg (by rw [h0]; exact fun e => by cases e), if_neg (by rw [h1]; exact fun e => by cases e)]
          exact ⟨fun b h => h, fun l s2 p2 m2 h => by cases h⟩
      | flt b0 =>
        rw [nodesD_flt ht, tokR_flt ht]
        exact ⟨fun b h => h, fun l s2 p2 m2 h => by cases h⟩
      | cls c r q =>
        rw [ht] at hl
        have hr : r.length < s.length := by rcases hl with ⟨_, e⟩ | ⟨_, e⟩ | e; cases e; cases e; exact e
        rw [nodesD_cls ht]
        rcases he with ⟨h0, h1⟩ | ⟨k, c', a, l, o, h0, h1⟩
        · rw [if_neg (by rw [h0]; exact fun e => by cases e), tokR_cls0 ht h1]
          exact ⟨fun b h => h, fun l s2 p2 m2 h => by cases h⟩
        · rw [tokR_cls ht h1]
          by_cases hc : c' = c
          · subst hc
            rw [if_pos h0, if_pos rfl]
            refine ⟨(fun b h => by cases h), fun l2 s2 p2 m2 h => ?_⟩
            injection h with h1' h2 h3 h4
            subst h1' h2 h3 h4
            refine ⟨fun e2 => (by rw [h0] at e2; cases e2), fun c2 e2 => ⟨hr, fun F2 hF2 => ?_⟩⟩
            rw [tokR_more pv F F2 _ r _ (by omega) hF2]
            congr 1
            show _ = StT.shut { st with size := many }
            unfold StT.shut
            simp only [h1]
            rw [← hm]
          · rw [if_neg (by rw [h0]; exact fun e => hc (by injection e)), if_neg hc]
            exact ⟨fun b h => h, fun l s2 p2 m2 h => by cases h⟩
      | opn k c r q =>
        rw [ht] at hl
        have hr : r.length < s.length := by rcases hl with ⟨_, e⟩ | ⟨_, e⟩ | e; cases e; cases e; exact e
        rw [nodesD_opn ht, tokR_opn ht, hd, hm]
        by_cases hg : 50 ≤ deep ∨ 5000 ≤ many
        · rw [if_pos hg, if_pos hg]
          exact ⟨fun b h => h, fun l s2 p2 m2 h => by cases h⟩
        · rw [if_neg hg, if_neg hg]
          obtain ⟨st1, hst1⟩ : ∃ x : StT, { st with open_ := (k, c, q, []) :: st.open_, size := many + 1 } = x := ⟨_, rfl⟩
          obtain ⟨i1, i2⟩ := ih (some c) r (q + 1) (many + 1) (deep + 1) st1 F (by omega) (by omega) (by rw [← hst1]; simp [hd]) (by rw [← hst1]) (.inr ⟨k, c, q, [], st.open_, rfl, by rw [← hst1]⟩)
          rw [hst1]
          cases hn : nodesD pv f (some c) r (q + 1) (many + 1) (deep + 1) with
          | bad b0 =>
            dsimp only
            refine ⟨fun b h => ?_, fun l2 s2 p2 m2 h => by cases h⟩
            injection h with h
            rw [← h]
            exact i1 b0 hn
          | ok kids s3 p3 m3 =>
            dsimp only
            obtain ⟨hs3, hrun2⟩ := (i2 kids s3 p3 m3 hn).2 c rfl
            obtain ⟨st2, hst2⟩ : ∃ x : StT, StT.shut { st1.adds kids with size := m3 } = x := ⟨_, rfl⟩
            have hx : st2 = StT.add { st with size := m3 } (.mk k 0 0 [] [] kids q) := by
              rw [← hst2]
              obtain ⟨_, h2⟩ := StT.adds_is kids st1
              rcases h2 with ⟨g, _⟩ | ⟨k', c', a', l', o', g, g2⟩
              · rw [← hst1] at g; cases g
              · rw [← hst1] at g
                injection g with g3 g4
                cases g3
                subst g4
                unfold StT.shut
                rw [g2, ← hst1]
                simp
            have hadd := EndIs.add (st := { st with size := m3 }) (e := e) he (.mk k 0 0 [] [] kids q)
            have hsz : st2.size = m3 := by rw [hx]; exact (StT.add_open _ _).1
            obtain ⟨j1, j2⟩ := ih e s3 p3 m3 deep st2 (s3.length + 1) (by omega) (by omega) (by rw [hx, hadd.2]; exact hd) hsz (by rw [hx]; exact hadd.1)
            have hrun3 := hrun2 (s3.length + 1) (by omega)
            rw [hst2] at hrun3
            rw [hrun3]
            have hst : ∀ (l : List PN) (m4 : Nat), StT.shut { st2.adds l with size := m4 } = StT.shut { st.adds (.mk k 0 0 [] [] kids q :: l) with size := m4 } ∧ st2.done ++ l = st.done ++ (if st.open_ = [] then .mk k 0 0 [] [] kids q :: l else l) := fun l m4 => by
              rw [hx]
              exact StT.behind st _ l m3 m4
            cases hn2 : nodesD pv f e s3 p3 m3 deep with
            | bad b0 =>
              dsimp only
              refine ⟨fun b h => ?_, fun l2 s2 p2 m2 h => by cases h⟩
              injection h with h
              rw [← h]
              exact j1 b0 hn2
            | ok l4 s4 p4 m4 =>
              dsimp only
              obtain ⟨j3, j4⟩ := j2 l4 s4 p4 m4 hn2
              refine ⟨(fun b h => by cases h), fun l2 s2 p2 m2 h => ?_⟩
              injection h with h1' h2 h3 h4
              subst h1' h2 h3 h4
              refine ⟨fun e2 => ?_, fun c2 e2 => ?_⟩
              · obtain ⟨k1, k2⟩ := j3 e2
                have h1 : st.open_ = [] := by
                  rcases he with ⟨_, h⟩ | ⟨_, _, _, _, _, h, _⟩
                  · exact h
                  · rw [e2] at h; cases h
                have h5 := (hst l4 m4).2
                rw [if_pos h1] at h5
                exact ⟨k1, by rw [k2, h5]⟩
              · obtain ⟨k1, k2⟩ := j4 c2 e2
                exact ⟨by omega, fun F2 hF2 => by rw [k2 F2 hF2, (hst l4 m4).1]⟩
      | wrd w t q =>
        rw [ht] at hl
        have hr : t.length < s.length := by rcases hl with ⟨_, e⟩ | ⟨_, e⟩ | e; cases e; cases e; exact e
        rw [nodesD_wrd ht, tokR_wrd ht, hm]
        by_cases hg : 5000 ≤ many
        · rw [if_pos hg, if_pos hg]
          exact ⟨fun b h => h, fun l s2 p2 m2 h => by cases h⟩
        · rw [if_neg hg, if_neg hg]
          cases hw : wordOf pv w q with
          | none => exact ⟨fun b h => h, fun l s2 p2 m2 h => by cases h⟩
          | some x =>
            dsimp only
            by_cases hfit : fitsB t = true
            · rw [if_pos hfit, if_pos hfit]
              obtain ⟨st2, hx⟩ : ∃ st2, StT.add { st with size := many + 1 } x = st2 := ⟨_, rfl⟩
              rw [hx]
              have hadd := EndIs.add (st := { st with size := many + 1 }) (e := e) he x
              rw [hx] at hadd
              have hsz : st2.size = many + 1 := by rw [← hx]; exact (StT.add_open _ _).1
              obtain ⟨j1, j2⟩ := ih e t (q + w.length) (many + 1) deep st2 F (by omega) (by omega) (by rw [hadd.2]; exact hd) hsz hadd.1
              have hst : ∀ (l : List PN) (m4 : Nat), StT.shut { st2.adds l with size := m4 } = StT.shut { st.adds (x :: l) with size := m4 } ∧ st2.done ++ l = st.done ++ (if st.open_ = [] then x :: l else l) := fun l m4 => by
                rw [← hx]
                exact StT.behind st _ l (many + 1) m4
              cases hn2 : nodesD pv f e t (q + w.length) (many + 1) deep with
              | bad b0 =>
                dsimp only
                refine ⟨fun b h => ?_, fun l2 s2 p2 m2 h => by cases h⟩
                injection h with h
                rw [← h]
                exact j1 b0 hn2
              | ok l4 s4 p4 m4 =>
                dsimp only
                obtain ⟨j3, j4⟩ := j2 l4 s4 p4 m4 hn2
                refine ⟨(fun b h => by cases h), fun l2 s2 p2 m2 h => ?_⟩
                injection h with h1' h2 h3 h4
                subst h1' h2 h3 h4
                refine ⟨fun e2 => ?_, fun c2 e2 => ?_⟩
                · obtain ⟨k1, k2⟩ := j3 e2
                  have h1 : st.open_ = [] := by
                    rcases he with ⟨_, h⟩ | ⟨_, _, _, _, _, h, _⟩
                    · exact h
                    · rw [e2] at h; cases h
                  have h5 := (hst l4 m4).2
                  rw [if_pos h1] at h5
                  exact ⟨k1, by rw [k2, h5]⟩
                · obtain ⟨k1, k2⟩ := j4 c2 e2
                  exact ⟨by omega, fun F2 hF2 => by rw [k2 F2 hF2, (hst l4 m4).1]⟩
            · rw [if_neg hfit, if_neg hfit]
              exact ⟨fun b h => h, fun l s2 p2 m2 h => by cases h⟩
end
end Go.Proofs.YthbighnkohjfnaaGreatDoor

/-
  CONTRACTS: a class but another one; with how many bytes of a class a text begins; the last place of a byte, and how often it stands there.
-/
namespace Go.Proofs.YthbighnkohjfnaaGreatDoor
open Go.RowKit

/-- with how many bytes of a class a text begins -/
def begP (p : UInt8 → Bool) (l : List UInt8) : Nat := (l.takeWhile p).length
theorem begP_le (p : UInt8 → Bool) (l : List UInt8) : begP p l ≤ l.length := (List.takeWhile_prefix p).length_le
theorem begP_all (p : UInt8 → Bool) (l : List UInt8) (h : ∀ (j : Nat) c, l[j]? = some c → p c = true) : begP p l = l.length := by
  induction l with
  | nil => simp [begP]
  | cons a r ih =>
    have h0 : p a = true := h 0 a rfl
    have e : begP p (a :: r) = begP p r + 1 := by unfold begP; rw [List.takeWhile_cons_of_pos h0]; rfl
    rw [e, List.length_cons, ih (fun j c hj => h (j + 1) c (by simpa using hj))]
theorem begP_step (p : UInt8 → Bool) (l : List UInt8) (k : Nat) (c : UInt8) (hk : ∀ (j : Nat) d, j < k → l[j]? = some d → p d = true) (hc : l[k]? = some c) (hn : p c = false) : begP p l = k := by
  induction l generalizing k with
  | nil => simp at hc
  | cons a r ih =>
    cases k with
    | zero =>
      simp at hc
      subst hc
      unfold begP; rw [List.takeWhile_cons_of_neg (by simp [hn])]; rfl
    | succ k =>
      have h0 : p a = true := hk 0 a (by omega) rfl
      have e : begP p (a :: r) = begP p r + 1 := by unfold begP; rw [List.takeWhile_cons_of_pos h0]; rfl
      rw [e, ih k (fun j d hj hd => hk (j + 1) d (by omega) (by simpa using hd)) (by simpa using hc)]
/-- the brackets, and what else is in no word -/
def noWord : List UInt8 := [40, 41, 91, 93, 123, 125, 34, 59]
theorem wordC_is (c : UInt8) : wordC c = (decide ((33 : Int) ≤ (c.toNat : Int) ∧ (c.toNat : Int) ≤ 126) && !noWord.contains c) := by
  unfold wordC noWord
  congr 1
  exact decide_eq_decide.2 (by omega)
/-- is a byte one of a text's? -/
def inB (t : ByteArray) (c : UInt8) : Bool := t.data.toList.contains c
/-- where the closures of a word's class stand -/
structure WdAt (W : World) (c1 c2 b1 b2 b3 : Nat) : Prop where
  f1 : W.cell? ⟨c1, 0, none⟩ = some (.func (.func 41) #[] #[.pointer (some ⟨b1, 0, none⟩), .pointer (some ⟨b2, 0, none⟩)])
  f2 : W.cell? ⟨c2, 0, none⟩ = some (.func (.func 43) #[] #[.pointer (some ⟨b3, 0, none⟩)])
  p1 : W.cell? ⟨b1, 0, none⟩ = some (.int .u8 33)
  p2 : W.cell? ⟨b2, 0, none⟩ = some (.int .u8 126)
  p3 : W.cell? ⟨b3, 0, none⟩ = some (.string ⟨#[40, 41, 91, 93, 123, 125, 34, 59]⟩)
set_option maxHeartbeats 400000 in
theorem but_any (b1 b2 b3 : Nat) (w : World) :
    Calls Tryz.prog 69 #[.func (.func 41) #[] #[.pointer (some ⟨b1, 0, none⟩), .pointer (some ⟨b2, 0, none⟩)], .func (.func 43) #[] #[.pointer (some ⟨b3, 0, none⟩)]] w fun e w' => e = .returned (.func (.func 89) #[] #[.pointer (some ⟨w.heap.size, 0, none⟩), .pointer (some ⟨w.heap.size + 1, 0, none⟩)]) ∧ (w'.cell? ⟨w.heap.size, 0, none⟩ = some (.func (.func 41) #[] #[.pointer (some ⟨b1, 0, none⟩), .pointer (some ⟨b2, 0, none⟩)]) ∧ w'.cell? ⟨w.heap.size + 1, 0, none⟩ = some (.func (.func 43) #[] #[.pointer (some ⟨b3, 0, none⟩)])) ∧ Below w.heap.size w w' ∧ w'.heap.size = w.heap.size + 2 := by
  go_enter Tryz.func69, Tryz.ntmps69
  go_wp2
  go_ret
  refine ⟨rfl, ⟨?_, ?_⟩, ((Below.refl _ _).alloc (Nat.le_refl _) _).alloc (by simp) _, by simp⟩
  · simp
  · simp
set_option maxRecDepth 100000 in
set_option maxHeartbeats 1000000 in
theorem but1_any (c1 c2 b1 b2 b3 : Nat) (c : UInt8) (w : World) (h : WdAt w c1 c2 b1 b2 b3) :
    Calls Tryz.prog 89 #[.int .u8 (c.toNat : Int), .pointer (some ⟨c1, 0, none⟩), .pointer (some ⟨c2, 0, none⟩)] w fun e w' => e = .returned (.bool (wordC c)) ∧ w = w' := by
  obtain ⟨f1, f2, p1, p2, p3⟩ := h
  have H1 := Lib.hid (betw1_any 33 126 c b1 b2 w p1 p2)
  have H2 := Lib.hid (oneOf1_any ⟨#[40, 41, 91, 93, 123, 125, 34, 59]⟩ c b3 w p3)
  have HW := Lib.hid (wordC_is c)
  clear p1 p2 p3
  obtain ⟨r1, hr1⟩ : ∃ r, decide ((33 : Int) ≤ (c.toNat : Int) ∧ (c.toNat : Int) ≤ 126) = r := ⟨_, rfl⟩
  obtain ⟨r2, hr2⟩ : ∃ r, noWord.contains c = r := ⟨_, rfl⟩
  have K1 : Hid (Calls Tryz.prog 41 #[.int .u8 (c.toNat : Int), .pointer (some ⟨b1, 0, none⟩), .pointer (some ⟨b2, 0, none⟩)] w fun e w' => e = .returned (.bool r1) ∧ w = w') := by rw [← hr1]; exact H1.out
  have K2 : Hid (Calls Tryz.prog 43 #[.int .u8 (c.toNat : Int), .pointer (some ⟨b3, 0, none⟩)] w fun e w' => e = .returned (.bool r2) ∧ w = w') := by rw [← hr2]; exact H2.out
  rw [hr1, hr2] at HW
  clear hr1 hr2 H1 H2
  go_enter Tryz.func89, Tryz.ntmps89
  go_wp2_with fail
  refine K1.out.mono ?_
  rintro e w' ⟨rfl, rfl⟩
  cases r1 with
  | false =>
    go_wp2
    go_ret
    exact ⟨by rw [HW.out]; rfl, rfl⟩
  | true =>
    go_wp2_with fail
    refine K2.out.mono ?_
    rintro e w' ⟨rfl, rfl⟩
    go_wp2
    go_ret
    exact ⟨by rw [HW.out]; cases r2 <;> rfl, rfl⟩

set_option maxRecDepth 100000 in
set_option maxHeartbeats 1000000 in
theorem beginsW_any (c1 c2 b1 b2 b3 : Nat) (s : ByteArray) (w : World) (h : WdAt w c1 c2 b1 b2 b3) (hs : s.size ≤ 100000) :
    Calls Tryz.prog 25 #[.func (.func 89) #[] #[.pointer (some ⟨c1, 0, none⟩), .pointer (some ⟨c2, 0, none⟩)], .string s] w fun e w' => e = .returned (.int .i64 (begP wordC s.data.toList : Int)) ∧ w = w' := by
  have HN := Lib.hid h
  clear h
  go_enter Tryz.func25, Tryz.ntmps25
  go_wp2
  go_loopg [5] s.size (fun g x wr => ∃ k : Nat, k + g = s.size ∧ x = .int .i64 k ∧ wr = w ∧ Hid (∀ (j : Nat) d, j < k → s.data.toList[j]? = some d → wordC d = true))
  case atStart => exact ⟨0, by omega, rfl, rfl, fun j d hj => by omega⟩
  case round =>
    obtain ⟨k, hk, rfl, rfl, HF⟩ := hrel
    cases gk with
    | zero =>
      have hks : ¬ ((k : Int) < (s.size : Int)) := by omega
      have HB : Hid (begP wordC s.data.toList = k) := by
        have hl : s.data.toList.length = s.size := by simp
        have := begP_all wordC s.data.toList fun j d hd => HF.out j d (by have := (List.getElem?_eq_some_iff.1 hd).1; omega) hd
        show _ = _
        omega
      go_wp2
      go_ret
      exact ⟨by rw [HB.out]; rfl, rfl⟩
    | succ g =>
      have hki : (k : Int) < (s.size : Int) := by omega
      have hkn : k < s.size := by omega
      have HD : Hid (s.data.toList[k]? = some s[k]) := by
        show _ = _
        rw [List.getElem?_eq_getElem (by simpa using hkn)]; rfl
      have HK := Lib.hid (but1_any c1 c2 b1 b2 b3 s[k] wr HN.out)
      obtain ⟨r, hr⟩ : ∃ r, wordC s[k] = r := ⟨_, rfl⟩
      have HK := Lib.hid (by have h := HK.out; rw [show wordC s[k] = r from hr] at h; exact h)
      have HR := Lib.hid hr
      clear hr
      go_wp2_with fail
      refine HK.out.mono ?_
      rintro e w' ⟨rfl, rfl⟩
      cases r with
      | true =>
        go_wp2
        go_roundg g
        case measure => omega
        case rel =>
          refine ⟨k + 1, by omega, by go_num, rfl, fun j d hj hd => ?_⟩
          by_cases e : j = k
          · subst e
            rw [HD.out] at hd
            rw [← Option.some.inj hd]; exact HR.out
          · exact HF.out j d (by omega) hd
      | false =>
        have HB : Hid (begP wordC s.data.toList = k) := begP_step wordC _ k s[k] HF.out HD.out HR.out
        go_wp2
        go_ret
        exact ⟨by rw [HB.out]; rfl, rfl⟩

set_option maxRecDepth 100000 in
set_option maxHeartbeats 1000000 in
theorem beginsO_any (b3 : Nat) (t : ByteArray) (s : ByteArray) (w : World) (h : w.cell? ⟨b3, 0, none⟩ = some (.string t)) (hs : s.size ≤ 100000) :
    Calls Tryz.prog 25 #[.func (.func 43) #[] #[.pointer (some ⟨b3, 0, none⟩)], .string s] w fun e w' => e = .returned (.int .i64 (begP (inB t) s.data.toList : Int)) ∧ w = w' := by
  have HN := Lib.hid h
  clear h
  go_enter Tryz.func25, Tryz.ntmps25
  go_wp2
  go_loopg [5] s.size (fun g x wr => ∃ k : Nat, k + g = s.size ∧ x = .int .i64 k ∧ wr = w ∧ Hid (∀ (j : Nat) d, j < k → s.data.toList[j]? = some d → (inB t) d = true))
  case atStart => exact ⟨0, by omega, rfl, rfl, fun j d hj => by omega⟩
  case round =>
    obtain ⟨k, hk, rfl, rfl, HF⟩ := hrel
    cases gk with
    | zero =>
      have hks : ¬ ((k : Int) < (s.size : Int)) := by omega
      have HB : Hid (begP (inB t) s.data.toList = k) := by
        have hl : s.data.toList.length = s.size := by simp
        have := begP_all (inB t) s.data.toList fun j d hd => HF.out j d (by have := (List.getElem?_eq_some_iff.1 hd).1; omega) hd
        show _ = _
        omega
      go_wp2
      go_ret
      exact ⟨by rw [HB.out]; rfl, rfl⟩
    | succ g =>
      have hki : (k : Int) < (s.size : Int) := by omega
      have hkn : k < s.size := by omega
      have HD : Hid (s.data.toList[k]? = some s[k]) := by
        show _ = _
        rw [List.getElem?_eq_getElem (by simpa using hkn)]; rfl
      have HK := Lib.hid (oneOf1_any t s[k] b3 wr HN.out)
      obtain ⟨r, hr⟩ : ∃ r, (inB t) s[k] = r := ⟨_, rfl⟩
      have HK := Lib.hid (by have h := HK.out; rw [show t.data.toList.contains s[k] = r from hr] at h; exact h)
      have HR := Lib.hid hr
      clear hr
      go_wp2_with fail
      refine HK.out.mono ?_
      rintro e w' ⟨rfl, rfl⟩
      cases r with
      | true =>
        go_wp2
        go_roundg g
        case measure => omega
        case rel =>
          refine ⟨k + 1, by omega, by go_num, rfl, fun j d hj hd => ?_⟩
          by_cases e : j = k
          · subst e
            rw [HD.out] at hd
            rw [← Option.some.inj hd]; exact HR.out
          · exact HF.out j d (by omega) hd
      | false =>
        have HB : Hid (begP (inB t) s.data.toList = k) := begP_step (inB t) _ k s[k] HF.out HD.out HR.out
        go_wp2
        go_ret
        exact ⟨by rw [HB.out]; rfl, rfl⟩

theorem lastX (s : ByteArray) (c : UInt8) (k : Nat) (hk : 1 ≤ k) (hks : k ≤ s.size) : (s[k - 1]'(by omega) = c → Lib.lastIdx s (c.toNat : Int) k = ((k : Int) - 1)) ∧ (¬ s[k - 1]'(by omega) = c → Lib.lastIdx s (c.toNat : Int) k = Lib.lastIdx s (c.toNat : Int) (k - 1)) := by
  have hb : s.data[k - 1]! = s[k - 1]'(by omega) := by rw [getElem!_pos s.data (k - 1) (by simp; omega)]; rfl
  have h1 := Lib.lastIdx_hit s (c.toNat : Int) (k - 1)
  have h2 := Lib.lastIdx_miss s (c.toNat : Int) (k - 1)
  rw [hb] at h1 h2
  rw [show k - 1 + 1 = k by omega] at h1 h2
  constructor
  · intro h
    rw [h1 (by rw [h])]
    omega
  · intro h
    exact h2 fun e => h (UInt8.toNat_inj.1 (by omega))
set_option maxRecDepth 100000 in
set_option maxHeartbeats 1000000 in
theorem lastB_any (s : ByteArray) (c : UInt8) (w : World) (hs : s.size ≤ 100000) :
    Calls Tryz.prog 65 #[.string s, .int .u8 (c.toNat : Int)] w fun e w' => e = .returned (.int .i64 (Lib.lastIndexByte s (c.toNat : Int))) ∧ w = w' := by
  go_enter Tryz.func65, Tryz.ntmps65
  go_wp2
  go_loopg [5] s.size (fun g x wr => g ≤ s.size ∧ x = .int .i64 ((g : Int) - 1) ∧ wr = w ∧ Hid (Lib.lastIndexByte s (c.toNat : Int) = Lib.lastIdx s (c.toNat : Int) g))
  case atStart => exact ⟨Nat.le_refl _, by first | rfl | go_num | (congr 1; omega), rfl, rfl⟩
  case round =>
    obtain ⟨hk, rfl, rfl, HF⟩ := hrel
    cases gk with
    | zero =>
      go_wp2
      go_ret
      exact ⟨by rw [HF.out]; rfl, rfl⟩
    | succ g =>
      have hX := lastX s c (g + 1) (by omega) hk
      rw [← HF.out] at hX
      simp only [Nat.add_sub_cancel] at hX
      obtain ⟨hX1, hX2⟩ := hX
      have hx1 := Lib.hid hX1
      have hx2 := Lib.hid hX2
      clear hX1 hX2
      obtain ⟨x, hx⟩ : ∃ x : Int, ((g + 1 : Nat) : Int) - 1 = x := ⟨_, rfl⟩
      have hxg : x = (g : Int) := by omega
      rw [hx]
      rw [hxg]
      clear hx hxg
      have hg0 : (0 : Int) ≤ (g : Int) := by omega
      have hgs : (g : Int) < (s.size : Int) := by omega
      have hgn : g < s.size := by omega
      by_cases he : s[g] = c
      · have hei : ((s[g].toNat : Int) == (c.toNat : Int)) = true := by rw [he]; simp
        have HE := Lib.hid he
        clear he
        go_wp2
        go_ret
        exact ⟨by rw [hx1.out HE.out]; exact congrArg (fun z => Ending.returned (.int .i64 z)) (by omega), rfl⟩
      · have hei : ((s[g].toNat : Int) == (c.toNat : Int)) = false := by
          rw [beq_eq_false_iff_ne]
          intro h
          exact he (UInt8.toNat_inj.1 (by omega))
        have HE := Lib.hid he
        clear he
        go_wp2
        go_roundg g
        case measure => omega
        case rel => exact ⟨by omega, by first | rfl | go_num, rfl, hx2.out HE.out⟩
set_option maxRecDepth 100000 in
set_option maxHeartbeats 1000000 in
theorem lastByte_any (s : ByteArray) (c : UInt8) (w : World) (hs : s.size ≤ 100000) :
    Calls Tryz.prog 51 #[.string s, .int .u8 (c.toNat : Int)] w fun e w' => e = .returned (.int .i64 (Lib.lastIndexByte s (c.toNat : Int))) ∧ w = w' := by
  have H := Lib.hid (lastB_any s c w hs)
  go_enter Tryz.func51, Tryz.ntmps51
  go_wp2_with fail
  refine H.out.mono ?_
  rintro e w' ⟨rfl, rfl⟩
  go_wp2
  go_ret
  exact ⟨rfl, rfl⟩
set_option maxRecDepth 100000 in
set_option maxHeartbeats 1000000 in
theorem countNl_any (s : ByteArray) (w : World) :
    Calls Tryz.prog 52 #[.string s, .string ⟨#[10]⟩] w fun e w' => e = .returned (.int .i64 (s.data.toList.count 10 : Nat)) ∧ w = w' := by
  go_enter Tryz.func52, Tryz.ntmps52
  go_wp2
  rw [run_callFunc_extern Tryz.func67 (by kernel_rfl) (by kernel_rfl) (by kernel_rfl) (e := Extern.BytealgCount.count) (by kernel_rfl), Lib.run_countString]
  simp only [Result.andThen]
  rw [Oper.upon_value]
  go_wp2
  go_ret
  exact ⟨rfl, rfl⟩
end Go.Proofs.YthbighnkohjfnaaGreatDoor

/-
  CONTRACTS: what a token's kind is and how many bytes it has; where a text goes on behind some bytes (in lists).
-/
namespace Go.Proofs.YthbighnkohjfnaaGreatDoor
open Go.RowKit

/-- what a text's first token is, and how long (of a fault: what stands ahead of it) -/
def measL : Bs → Int × Nat
  | [] => (4, 0)
  | c :: r => if (openC c).isSome then (1, 1) else if closeC c then (2, 1) else match wordN (c :: r) with
    | none => (4, (c :: r).length)
    | some 0 => (4, 0)
    | some (n + 1) => (0, n + 1)
theorem idx_take : ∀ (l : Bs) (c : UInt8), (l.contains c = true ∧ Lib.indexByte l c = ((l.takeWhile (fun b => b != c)).length : Nat)) ∨ (l.contains c = false ∧ Lib.indexByte l c = -1)
  | [], c => .inr ⟨rfl, rfl⟩
  | b :: l, c => by
    unfold Lib.indexByte
    by_cases hb : b = c
    · subst hb
      exact .inl ⟨by simp, by simp⟩
    · have hb1 : (b == c) = false := beq_eq_false_iff_ne.2 hb
      have hb2 : (b != c) = true := by simp [hb]
      have hc : (b :: l).contains c = l.contains c := by
        rw [List.contains_cons]
        rw [show (c == b) = false from beq_eq_false_iff_ne.2 fun e => hb e.symm]
        rfl
      rw [hc, hb1, List.takeWhile_cons_of_pos (p := fun b => b != c) hb2]
      rcases idx_take l c with ⟨h1, h2⟩ | ⟨h1, h2⟩
      · refine .inl ⟨h1, ?_⟩
        have hn : ((((l.takeWhile (fun b => b != c)).length : Nat) : Int) == -1) = false := beq_eq_false_iff_ne.2 (by omega)
        rw [h2, if_neg (by decide), hn, if_neg (by decide)]
        simp
      · refine .inr ⟨h1, ?_⟩
        rw [h2]
        rfl
/-- line and column behind some bytes -/
def posL : Bs → Nat × Nat → Nat × Nat
  | [], p => p
  | c :: r, p => posL r (if c = 10 then (p.1 + 1, 1) else (p.1, p.2 + 1))
theorem posL_append : ∀ (a b : Bs) (p : Nat × Nat), posL (a ++ b) p = posL b (posL a p)
  | [], _, _ => rfl
  | _ :: a, b, _ => posL_append a b _
theorem posL_none : ∀ (l : Bs) (p : Nat × Nat), (∀ c ∈ l, c ≠ 10) → posL l p = (p.1, p.2 + l.length) ∧ l.count 10 = 0
  | [], p, _ => ⟨rfl, rfl⟩
  | c :: r, p, h => by
    have hc : c ≠ 10 := h c (List.mem_cons_self ..)
    obtain ⟨h1, h2⟩ := posL_none r (p.1, p.2 + 1) fun c hc => h c (List.mem_cons_of_mem _ hc)
    refine ⟨?_, ?_⟩
    · show posL r (if c = 10 then _ else _) = _
      rw [if_neg hc, h1]
      simp only [List.length_cons]
      congr 1
      omega
    · rw [List.count_cons_of_ne hc, h2]
theorem posL_fst : ∀ (l : Bs) (p : Nat × Nat), (posL l p).1 = p.1 + l.count 10
  | [], p => rfl
  | c :: r, p => by
    show (posL r (if c = 10 then _ else _)).1 = _
    rw [posL_fst r]
    by_cases hc : c = 10
    · subst hc
      rw [if_pos rfl, List.count_cons_self]
      show p.1 + 1 + _ = _
      omega
    · rw [if_neg hc, List.count_cons_of_ne hc]
theorem posL_le : ∀ (l : Bs) (p : Nat × Nat), 1 ≤ p.2 → (posL l p).1 + (posL l p).2 ≤ p.1 + p.2 + l.length ∧ 1 ≤ (posL l p).2 ∧ (posL l p).2 ≤ p.2 + l.length
  | [], p, h => ⟨by simp [posL], by simpa [posL] using h, by simp [posL]⟩
  | c :: r, p, h => by
    by_cases hc : c = 10
    · have := posL_le r (p.1 + 1, 1) (Nat.le_refl _)
      have e : posL (c :: r) p = posL r (p.1 + 1, 1) := by show posL r (if c = 10 then _ else _) = _; rw [if_pos hc]
      rw [e, List.length_cons]
      refine ⟨by omega, by omega, by omega⟩
    · have := posL_le r (p.1, p.2 + 1) (by omega)
      have e : posL (c :: r) p = posL r (p.1, p.2 + 1) := by show posL r (if c = 10 then _ else _) = _; rw [if_neg hc]
      rw [e, List.length_cons]
      refine ⟨by omega, by omega, by omega⟩
/-- the same by the last end of a line -/
theorem posL_last (t : ByteArray) (p : Nat × Nat) : (Lib.lastIndexByte t 10 = -1 ∧ posL t.data.toList p = (p.1, p.2 + t.size)) ∨ ∃ i : Nat, i < t.size ∧ Lib.lastIndexByte t 10 = (i : Int) ∧ posL t.data.toList p = (p.1 + t.data.toList.count 10, t.size - i) := by
  have hl : t.data.toList.length = t.size := by simp
  have hat : ∀ j, j < t.size → ∃ h : j < t.data.toList.length, t.data[j]! = t.data.toList[j] := fun j hj => ⟨by omega, by rw [getElem!_pos t.data j (by simpa using hj)]; simp⟩
  rcases Lib.lastIndexByte_spec t 10 with ⟨h1, h2⟩ | ⟨i, hi, h1, h2, h3⟩
  · refine .inl ⟨h1, ?_⟩
    rw [(posL_none t.data.toList p ?_).1, hl]
    intro c hc hc10
    obtain ⟨j, hj, rfl⟩ := List.mem_iff_getElem.1 hc
    have := h2 j (by omega)
    obtain ⟨_, e⟩ := hat j (by omega)
    rw [e, hc10] at this
    exact this rfl
  · refine .inr ⟨i, hi, h1, ?_⟩
    obtain ⟨hi', e⟩ := hat i hi
    rw [e] at h2
    have h10 : t.data.toList[i] = 10 := UInt8.toNat_inj.1 (by have : (t.data.toList[i].toNat : Int) = 10 := h2; show _ = 10; omega)
    have hsp : t.data.toList = t.data.toList.take i ++ t.data.toList[i] :: t.data.toList.drop (i + 1) := by
      rw [← List.drop_eq_getElem_cons hi', List.take_append_drop]
    have hno : ∀ c ∈ t.data.toList.drop (i + 1), c ≠ 10 := by
      intro c hc hc10
      obtain ⟨j, hj, rfl⟩ := List.mem_iff_getElem.1 hc
      rw [List.length_drop] at hj
      rw [List.getElem_drop] at hc10
      obtain ⟨_, e2⟩ := hat (i + 1 + j) (by omega)
      have := h3 (i + 1 + j) (by omega) (by omega)
      rw [e2, hc10] at this
      exact this rfl
    have hlast : posL t.data.toList p = ((posL (t.data.toList.take i) p).1 + 1, 1 + (t.data.toList.drop (i + 1)).length) := by
      conv => lhs; rw [hsp]
      rw [posL_append]
      show posL (t.data.toList.drop (i + 1)) (if t.data.toList[i] = 10 then _ else _) = _
      rw [if_pos h10, (posL_none _ _ hno).1]
    have hfst := posL_fst t.data.toList p
    rw [hlast] at hfst ⊢
    rw [show (posL (t.data.toList.take i) p).1 + 1 = p.1 + t.data.toList.count 10 from hfst, List.length_drop, hl]
    congr 1
    omega
theorem measL_cons (c : UInt8) (r : Bs) : measL (c :: r) = if (openC c).isSome then ((1 : Int), 1) else if closeC c then ((2 : Int), 1) else match wordN (c :: r) with
    | none => ((4 : Int), (c :: r).length)
    | some 0 => ((4 : Int), 0)
    | some (n + 1) => ((0 : Int), n + 1) := rfl
theorem wordN_cons (c : UInt8) (r : Bs) : wordN (c :: r) = if c = 34 then (if r.contains 34 then some ((r.takeWhile (fun b => b != 34)).length + 2) else none) else some ((c :: r).takeWhile wordC).length := rfl
theorem meas_k (c : UInt8) (r : Bs) : (c = 40 ∨ c = 91 ∨ c = 123 → measL (c :: r) = (1, 1)) ∧ (c = 41 ∨ c = 93 ∨ c = 125 → measL (c :: r) = (2, 1)) ∧ (c = 34 → measL (c :: r) = if r.contains 34 then (0, (r.takeWhile (fun b => b != 34)).length + 2) else (4, r.length + 1)) ∧
    (c ≠ 40 → c ≠ 91 → c ≠ 123 → c ≠ 41 → c ≠ 93 → c ≠ 125 → c ≠ 34 → measL (c :: r) = if begP wordC (c :: r) = 0 then (4, 0) else (0, begP wordC (c :: r))) := by
  refine ⟨?_, ?_, ?_, ?_⟩
  · rintro (rfl | rfl | rfl) <;> rfl
  · rintro (rfl | rfl | rfl) <;> rfl
  · rintro rfl
    have e1 : (openC 34).isSome = false := rfl
    have e2 : closeC 34 = false := rfl
    rw [measL_cons, e1, e2, if_neg (by decide), if_neg (by decide), wordN_cons, if_pos rfl]
    by_cases h : r.contains 34 = true
    · rw [if_pos h, if_pos h]
    · rw [if_neg h, if_neg h]; rfl
  · intro h1 h2 h3 h4 h5 h6 h7
    have hc : closeC c = false := by unfold closeC; simp [h4, h5, h6]
    have ho : (openC c).isSome = false := by unfold openC; rw [if_neg h1, if_neg h2, if_neg h3]; rfl
    rw [measL_cons, ho, hc, if_neg (by decide), if_neg (by decide), wordN_cons, if_neg h7]
    unfold begP
    cases (List.takeWhile wordC (c :: r)).length with
    | zero => rfl
    | succ n => rfl
theorem byte_ne {c : UInt8} {n : Int} (k : UInt8) (h : ((c.toNat : Int) == n) = false) (hk : (k.toNat : Int) = n) : c ≠ k := by
  rintro rfl
  rw [hk] at h
  simp at h
theorem byte_is {c : UInt8} {n : Int} (k : UInt8) (h : ((c.toNat : Int) == n) = true) (hk : (k.toNat : Int) = n) : c = k := by
  have := eq_of_beq h
  exact UInt8.toNat_inj.1 (by omega)
set_option maxRecDepth 100000 in
set_option maxHeartbeats 2000000 in
theorem measured_any (s : ByteArray) (w : World) (hs : s.size ≤ 50000) (h0 : s.size ≠ 0) :
    Calls Tryz.prog 53 #[.string s] w fun e w' => e = .returned (.tuple #[.int .i64 (measL s.data.toList).1, .int .i64 ((measL s.data.toList).2 : Int)]) ∧ Below w.heap.size w w' := by
  have hl : s.data.toList.length = s.size := by simp
  have hp0 : 0 < s.size := by omega
  obtain ⟨c, r, hcr⟩ : ∃ c r, s.data.toList = c :: r := by
    cases h : s.data.toList with
    | nil => rw [h] at hl; simp at hl; omega
    | cons c r => exact ⟨c, r, rfl⟩
  have hs0 : s[0] = c := by
    have : s.data.toList[0]? = some c := by rw [hcr]; rfl
    rw [List.getElem?_eq_getElem (by omega)] at this
    exact Option.some.inj this
  have hlr : r.length + 1 = s.size := by rw [← hl, hcr]; rfl
  obtain ⟨K, hK⟩ : ∃ K, measL s.data.toList = K := ⟨_, rfl⟩
  rw [hK]
  have HK := Lib.hid (hK.symm.trans (by rw [hcr]))
  have HCR := Lib.hid hcr
  have HL := Lib.hid hl
  have HLR := Lib.hid hlr
  clear hK hcr hl hlr
  go_enter Tryz.func53, Tryz.ntmps53
  go_wp2_with fail
  · go_ret2
    exact ⟨by rw [HK.out, (meas_k c r).1 (.inl (byte_is 40 (by assumption) rfl))]; rfl, Below.refl _ _⟩
  · go_ret2
    exact ⟨by rw [HK.out, (meas_k c r).1 (.inr (.inl (byte_is 91 (by assumption) rfl)))]; rfl, Below.refl _ _⟩
  · go_ret2
    exact ⟨by rw [HK.out, (meas_k c r).1 (.inr (.inr (byte_is 123 (by assumption) rfl)))]; rfl, Below.refl _ _⟩
  · go_ret2
    exact ⟨by rw [HK.out, (meas_k c r).2.1 (.inl (byte_is 41 (by assumption) rfl))]; rfl, Below.refl _ _⟩
  · go_ret2
    exact ⟨by rw [HK.out, (meas_k c r).2.1 (.inr (.inl (byte_is 93 (by assumption) rfl)))]; rfl, Below.refl _ _⟩
  · go_ret2
    exact ⟨by rw [HK.out, (meas_k c r).2.1 (.inr (.inr (byte_is 125 (by assumption) rfl)))]; rfl, Below.refl _ _⟩
  · have hk := (meas_k c r).2.2.1 (byte_is 34 (by assumption) rfl)
    have hx : (s.extract 1 s.size).data.toList = r := by rw [Lib.extract_to_end, HCR.out]; rfl
    have hcall := idxByte_any (s.extract 1 s.size) 34 w
    rw [hx] at hcall
    rcases idx_take r 34 with ⟨h1, h2⟩ | ⟨h1, h2⟩
    · rw [h1, if_pos rfl] at hk
      rw [h2] at hcall
      have hle : (r.takeWhile (fun b => b != 34)).length ≤ r.length := (List.takeWhile_prefix _).length_le
      obtain ⟨k, hkk⟩ : ∃ k, (r.takeWhile (fun b => b != 34)).length = k := ⟨_, rfl⟩
      rw [hkk] at hcall hk hle
      have HC := Lib.hid hcall
      have HKK := Lib.hid hk
      have hlr := HLR.out
      clear hcall hk hkk h1 h2 hx
      refine HC.out.mono ?_
      rintro e w' ⟨rfl, rfl⟩
      go_wp2
      go_ret2
      exact ⟨by rw [HK.out, HKK.out]; rfl, Below.refl _ _⟩
    · rw [h1, if_neg (by decide)] at hk
      rw [h2] at hcall
      have HC := Lib.hid hcall
      have HKK := Lib.hid hk
      clear hcall hk h1 h2 hx
      refine HC.out.mono ?_
      rintro e w' ⟨rfl, rfl⟩
      go_wp2
      go_ret2
      exact ⟨by rw [HK.out, HKK.out, HLR.out]; rfl, Below.refl _ _⟩
  · have hk := (meas_k c r).2.2.2 (byte_ne 40 (by assumption) rfl) (byte_ne 91 (by assumption) rfl) (byte_ne 123 (by assumption) rfl) (byte_ne 41 (by assumption) rfl) (byte_ne 93 (by assumption) rfl) (byte_ne 125 (by assumption) rfl) (byte_ne 34 (by assumption) rfl)
    rw [← HCR.out] at hk
    have HKK := Lib.hid hk
    clear hk
    refine (between_any 33 126 w).mono ?_
    rintro e w1 ⟨rfl, ⟨p1, p2⟩, hb1, hz1⟩
    have P1 := Lib.hid p1
    have P2 := Lib.hid p2
    have HB1 := Lib.hid hb1
    have HZ1 := Lib.hid hz1
    clear p1 p2 hb1 hz1
    go_wp2_with fail
    refine (oneOf_any ⟨#[40, 41, 91, 93, 123, 125, 34, 59]⟩ w1).mono ?_
    rintro e w2 ⟨rfl, p3, hb2, hz2⟩
    have P3 := Lib.hid p3
    have HB2 := Lib.hid hb2
    have HZ2 := Lib.hid hz2
    clear p3 hb2 hz2
    go_wp2_with fail
    refine (but_any w.heap.size (w.heap.size + 1) w1.heap.size w2).mono ?_
    rintro e w3 ⟨rfl, ⟨f1, f2⟩, hb3, hz3⟩
    have HWD : Hid (WdAt w3 w2.heap.size (w2.heap.size + 1) w.heap.size (w.heap.size + 1) w1.heap.size) := by
      have z1 := HZ1.out
      have z2 := HZ2.out
      have k3 : ∀ b o, b < w2.heap.size → w3.cell? ⟨b, o, none⟩ = w2.cell? ⟨b, o, none⟩ := fun b o h => hb3.cell (p := ⟨b, o, none⟩) h
      have k2 : ∀ b o, b < w1.heap.size → w2.cell? ⟨b, o, none⟩ = w1.cell? ⟨b, o, none⟩ := fun b o h => HB2.out.cell (p := ⟨b, o, none⟩) h
      refine ⟨f1, f2, ?_, ?_, ?_⟩
      · rw [k3 _ _ (by omega), k2 _ _ (by omega)]; exact P1.out
      · rw [k3 _ _ (by omega), k2 _ _ (by omega)]; exact P2.out
      · rw [k3 _ _ (by omega)]; exact P3.out
    have HBE : Hid (Below w.heap.size w w3) := HB1.out.trans ((HB2.out.mono (by have := HZ1.out; omega)).trans (hb3.mono (by have := HZ1.out; have := HZ2.out; omega)))
    clear f1 f2 hb3 hz3
    have hcall := beginsW_any _ _ _ _ _ s w3 HWD.out (by omega)
    have hble := begP_le wordC s.data.toList
    rw [HL.out] at hble
    obtain ⟨k, hkk⟩ : ∃ k, begP wordC s.data.toList = k := ⟨_, rfl⟩
    have HKK := Lib.hid (by have h := HKK.out; rw [hkk] at h; exact h)
    rw [hkk] at hcall hble
    have HC := Lib.hid hcall
    clear hcall hkk
    cases k with
    | zero =>
      go_wp2_with fail
      refine HC.out.mono ?_
      rintro e w' ⟨rfl, rfl⟩
      go_wp2
      go_ret2
      exact ⟨by rw [HK.out, ← HCR.out, HKK.out]; rfl, HBE.out⟩
    | succ k =>
      have hkp : (0 : Int) < ((k + 1 : Nat) : Int) := by omega
      go_wp2_with fail
      refine HC.out.mono ?_
      rintro e w' ⟨rfl, rfl⟩
      go_wp2
      go_ret2
      exact ⟨by rw [HK.out, ← HCR.out, HKK.out]; rfl, HBE.out⟩
end Go.Proofs.YthbighnkohjfnaaGreatDoor

/-
  CONTRACTS: the cursor of package text: skip, place, token.
-/
namespace Go.Proofs.YthbighnkohjfnaaGreatDoor
open Go.RowKit

/-- but for one block, what was there is as it was -/
structure Only (b : Nat) (W W' : World) : Prop where
  bel : Below b W W'
  oth : ∀ g, b < g → g < W.heap.size → W'.heap[g]? = W.heap[g]?
theorem Only.refl (b : Nat) (W : World) : Only b W W := ⟨Below.refl _ _, fun _ _ _ => rfl⟩
theorem Only.trans {b : Nat} {W W' W'' : World} (h : Only b W W') (k : Only b W' W'') : Only b W W'' :=
  ⟨h.bel.trans k.bel, fun g hg hs => (k.oth g hg (Nat.lt_of_lt_of_le hs h.bel.size)).trans (h.oth g hg hs)⟩
theorem Only.of_below {b : Nat} {W W' : World} (h : Below W.heap.size W W') (hb : b ≤ W.heap.size) : Only b W W' := ⟨h.mono hb, fun g _ hs => h.block g hs⟩
theorem Only.setCell {b : Nat} {W W' : World} (h : Only b W W') (k : Nat) (u : Value) : Only b W (W'.setCell ⟨b, k, none⟩ u) :=
  ⟨h.bel.setCell (p := ⟨b, k, none⟩) (Nat.le_refl _) u, fun g hg hs => (Below.heap_setCell _ _ _ _ (show g ≠ b by omega)).trans (h.oth g hg hs)⟩
theorem Only.drew {b : Nat} {W W' : World} (h : Only b W W') : Only b W W'.drew := ⟨h.bel.drew, h.oth⟩
theorem Only.alloc {b : Nat} {W W' : World} (h : Only b W W') (hb : b ≤ W'.heap.size) (o : Obj) : Only b W (W'.alloc o) :=
  ⟨h.bel.alloc hb o, fun g hg hs => (Below.heap_alloc _ _ _ (Nat.lt_of_lt_of_le hs h.bel.size)).trans (h.oth g hg hs)⟩
theorem Only.block {b g : Nat} {W W' : World} (h : Only b W W') (hg : g ≠ b) (hs : g < W.heap.size) : W'.heap[g]? = W.heap[g]? := by
  rcases (by omega : g < b ∨ b < g) with e | e
  · exact h.bel.block g e
  · exact h.oth g e hs
/-- a cursor in its block -/
def BxC (W : World) (b : Nat) (s : ByteArray) (p : Nat × Nat) : Prop := W.heap[b]? = some (.cells #[.string s, .int .i64 (p.1 : Int), .int .i64 (p.2 : Int)] 67 (0, 0))
theorem BxC.cell {W : World} {b : Nat} {s : ByteArray} {p : Nat × Nat} (h : BxC W b s p) (j : Nat) : W.cell? ⟨b, j, none⟩ = (#[Value.string s, .int .i64 (p.1 : Int), .int .i64 (p.2 : Int)])[j]? := by unfold BxC at h; simp [World.cell?, h]
theorem BxC.fz {W : World} {b : Nat} {s : ByteArray} {p : Nat × Nat} (h : BxC W b s p) (j : Nat) : W.frozen? ⟨b, j, none⟩ = false := by unfold BxC at h; simp [World.frozen?, h]
theorem BxC.lt {W : World} {b : Nat} {s : ByteArray} {p : Nat × Nat} (h : BxC W b s p) : b < W.heap.size := (Array.getElem?_eq_some_iff.1 h).1
theorem BxC.next {W W' : World} {b B : Nat} {s : ByteArray} {p : Nat × Nat} (h : BxC W b s p) (hb : Below B W W') (hB : b < B) : BxC W' b s p := (hb.block b hB).trans h
theorem BxC.setS {W : World} {b : Nat} {s : ByteArray} {p : Nat × Nat} (h : BxC W b s p) (t : ByteArray) : BxC (W.setCell ⟨b, 0, none⟩ (.string t)) b t p :=
  (heap_setCell_same _ _ _ _ _ _ h).trans (by simp)
theorem BxC.setL {W : World} {b : Nat} {s : ByteArray} {p : Nat × Nat} (h : BxC W b s p) (n : Nat) : BxC (W.setCell ⟨b, 1, none⟩ (.int .i64 (n : Int))) b s (n, p.2) :=
  (heap_setCell_same _ _ _ _ _ _ h).trans (by simp)
theorem BxC.setC {W : World} {b : Nat} {s : ByteArray} {p : Nat × Nat} (h : BxC W b s p) (n : Nat) : BxC (W.setCell ⟨b, 2, none⟩ (.int .i64 (n : Int))) b s (p.1, n) :=
  (heap_setCell_same _ _ _ _ _ _ h).trans (by simp)
theorem ext0_size (s : ByteArray) (n : Nat) (h : n ≤ s.size) : (s.extract 0 n).size = n := by rw [ByteArray.size_extract]; omega
theorem ext0_list (s : ByteArray) (n : Nat) : (s.extract 0 n).data.toList = s.data.toList.take n := by
  rw [ByteArray.data_extract, Array.toList_extract]
  simp
set_option maxRecDepth 100000 in
set_option maxHeartbeats 4000000 in
theorem skip_any (b : Nat) (s : ByteArray) (p : Nat × Nat) (n : Nat) (w : World) (hB : BxC w b s p) (hn : n ≤ s.size) (hs : s.size ≤ 50000) (hp1 : p.1 ≤ 100000) (hp2 : p.2 ≤ 100000) :
    Calls Tryz.prog 32 #[.pointer (some ⟨b, 0, none⟩), .int .i64 (n : Int)] w fun e w' => e = .returned (.string (s.extract 0 n)) ∧ BxC w' b (s.extract n s.size) (posL (s.data.toList.take n) p) ∧ Only b w w' := by
  have hz := ext0_size s n hn
  have hcnt : (s.extract 0 n).data.toList.count 10 ≤ n := by
    have := List.count_le_length (a := (10 : UInt8)) (l := (s.extract 0 n).data.toList)
    rw [show (s.extract 0 n).data.toList.length = n from (Array.length_toList).trans hz] at this
    exact this
  have hlast := posL_last (s.extract 0 n) p
  rw [ext0_list s n, hz] at hlast
  have y0 := hB.cell 0
  have y1 := hB.cell 1
  have y2 := hB.cell 2
  have f0 := hB.fz 0
  have f1 := hB.fz 1
  have f2 := hB.fz 2
  have hn1 : (n : Int) ≤ (s.size : Int) := by omega
  have hn0 : (0 : Int) ≤ (n : Int) := by omega
  obtain ⟨p1, p2⟩ := p
  simp only at hp1 hp2
  obtain ⟨t, ht⟩ : ∃ t, s.extract 0 n = t := ⟨_, rfl⟩
  rw [ht] at hlast
  have HB := Lib.hid hB
  have HL := Lib.hid hlast
  clear hB hlast
  have hcl : ∀ W, Calls Tryz.prog 51 #[.string t, .int .u8 10] W fun e w' => e = .returned (.int .i64 (Lib.lastIndexByte t 10)) ∧ W = w' := fun W => lastByte_any t 10 W (by rw [← ht, hz]; omega)
  go_enter Tryz.func32, Tryz.ntmps32
  go_wp2_with fail
  obtain ⟨W1, hW1⟩ : ∃ W1, w.setCell ⟨b, 0, none⟩ (.string (s.extract n s.size)) = W1 := ⟨_, rfl⟩
  have HB1 : Hid (BxC W1 b (s.extract n s.size) (p1, p2)) := by rw [← hW1]; exact HB.out.setS _
  have HO1 : Hid (Only b w W1) := by rw [← hW1]; exact (Only.refl _ _).setCell 0 _
  rw [hW1]
  clear hW1 y0 y1 y2 f0 f1 f2
  have y1 := HB1.out.cell 1
  have y2 := HB1.out.cell 2
  have f1 := HB1.out.fz 1
  have f2 := HB1.out.fz 2
  have HCL := Lib.hid (hcl W1)
  have HT := Lib.hid ht
  rw [ht] at hz hcnt
  have hct := HL.out
  rw [show (s.data.toList.take n).count 10 = t.data.toList.count 10 by rw [← ht, ext0_list]] at hct
  clear hcl ht
  rcases hct with ⟨h1, h2⟩ | ⟨i, hi, h1, h2⟩
  · rw [h1] at HCL
    have H2 := Lib.hid h2
    clear h1 h2
    refine HCL.out.mono ?_
    rintro e w' ⟨rfl, rfl⟩
    go_wp2
    go_ret
    refine ⟨by rw [HT.out]; rfl, ?_, HO1.out.setCell 2 _⟩
    rw [H2.out]
    have := HB1.out.setC (p2 + n)
    rw [Int.natCast_add] at this
    exact this
  · rw [h1] at HCL
    have H2 := Lib.hid h2
    have hi0 : (0 : Int) ≤ (i : Int) := by omega
    clear h1 h2
    obtain ⟨k, hk⟩ : ∃ k, t.data.toList.count 10 = k := ⟨_, rfl⟩
    have HK := Lib.hid hk
    rw [hk] at hcnt
    have hcc := countNl_any t
    rw [hk] at hcc
    have HCC : ∀ W, Hid (Calls Tryz.prog 52 #[.string t, .string ⟨#[10]⟩] W fun e w' => e = .returned (.int .i64 (k : Nat)) ∧ W = w') := hcc
    clear hcc hk
    refine HCL.out.mono ?_
    rintro e w' ⟨rfl, rfl⟩
    have hw : IntKind.i64.wrap ((p1 : Int) + (k : Int)) = (p1 : Int) + (k : Int) := IntWalk.i64_in _ (by omega)
    go_wp2_with fail
    go_region_with (go_at_call 52; refine (HCC _).out.mono ?_; rintro e w3 ⟨rfl, rfl⟩)
    all_goals
      obtain ⟨W2, hW2⟩ : ∃ W2, (W1.setCell ⟨b, 1, none⟩ (.int .i64 ((p1 : Int) + (k : Int)))).drew = W2 := ⟨_, rfl⟩
      have HB2 : Hid (BxC W2 b (s.extract n s.size) (p1 + k, p2)) := by have := HB1.out.setL (p1 + k); rw [Int.natCast_add] at this; rw [← hW2]; exact this
      have HO2 : Hid (Only b w W2) := by rw [← hW2]; exact (HO1.out.setCell 1 _).drew
      rw [hW2]
      clear hW2 y1 y2 f1 f2
      have y2 := HB2.out.cell 2
      have f2 := HB2.out.fz 2
      have hin : (i : Int) ≤ (n : Int) := by omega
      go_wp2
      go_ret
      refine ⟨by rw [HT.out]; rfl, ?_, HO2.out.setCell 2 _⟩
      rw [H2.out, HK.out]
      have := HB2.out.setC (n - i)
      rw [Int.natCast_sub (by omega)] at this
      exact this
end Go.Proofs.YthbighnkohjfnaaGreatDoor
