import Derived.Lib.Bytealg
import Derived.Lib.IndexLaws
import Derived.Test.YthbighnkohjfnaaGreatDoorJSayEach
import Derived.Lib.Hide
import Derived.Laws.EntriesVeiled
import Derived.Deep.LoopGhost
import Derived.Lib.SliceRun
/-
  PLAIN FACTS: which texts are names, said in two ways.
-/
namespace Go.Proofs.YthbighnkohjfnaaGreatDoor
open Go.RowKit

def digC (c : UInt8) : Bool := decide (48 ≤ (c.toNat : Int) ∧ (c.toNat : Int) ≤ 57)
def lowC (c : UInt8) : Bool := decide (97 ≤ (c.toNat : Int) ∧ (c.toNat : Int) ≤ 122)
def sgs : List UInt8 := [63, 95, 43, 45, 42, 47, 60, 62, 61, 33, 46, 37, 38]
def sgl : List UInt8 := [43, 45, 33]
def clsC (c : UInt8) : Bool := lowC c || (digC c || sgs.contains c)
/-- with how many bytes of the class a text begins -/
def beg (l : List UInt8) : Nat := (l.takeWhile clsC).length
theorem beg_le (l : List UInt8) : beg l ≤ l.length := (List.takeWhile_prefix clsC).length_le
theorem beg_all (l : List UInt8) : beg l = l.length ↔ ∀ (j : Nat) c, l[j]? = some c → clsC c = true := by
  induction l with
  | nil => simp [beg]
  | cons a r ih =>
    by_cases h : clsC a = true
    · have e : beg (a :: r) = beg r + 1 := by unfold beg; rw [List.takeWhile_cons_of_pos h]; rfl
      rw [e, List.length_cons]
      constructor
      · intro h1 j c hj
        cases j with
        | zero => simp at hj; rw [← hj]; exact h
        | succ j => exact ih.1 (by omega) j c (by simpa using hj)
      · intro h1
        have := ih.2 (fun j c hj => h1 (j + 1) c (by simpa using hj))
        omega
    · have e : beg (a :: r) = 0 := by unfold beg; rw [List.takeWhile_cons_of_neg h]; rfl
      rw [e, List.length_cons]
      constructor
      · intro h1; omega
      · intro h1; exact absurd (h1 0 a rfl) h
theorem beg_step (l : List UInt8) (k : Nat) (c : UInt8) (hk : ∀ (j : Nat) d, j < k → l[j]? = some d → clsC d = true) (hc : l[k]? = some c) (hn : clsC c = false) : beg l = k := by
  induction l generalizing k with
  | nil => simp at hc
  | cons a r ih =>
    cases k with
    | zero =>
      simp at hc
      subst hc
      unfold beg; rw [List.takeWhile_cons_of_neg (by simp [hn])]; rfl
    | succ k =>
      have h0 : clsC a = true := hk 0 a (by omega) rfl
      have e : beg (a :: r) = beg r + 1 := by unfold beg; rw [List.takeWhile_cons_of_pos h0]; rfl
      rw [e, ih k (fun j d hj hd => hk (j + 1) d (by omega) (by simpa using hd)) (by simpa using hc)]
/-- does a sign stand ahead? -/
def ledB (l : List UInt8) : Bool := sgl.contains (l.headD 0)
/-- what stands behind a sign -/
def tlB (l : List UInt8) : List UInt8 := if ledB l then l.drop 1 else l
def tru : List UInt8 := [116, 114, 117, 101]
def fls : List UInt8 := [102, 97, 108, 115, 101]
/-- the program's way -/
def namP (l : List UInt8) : Bool := decide (l ≠ [] ∧ l.length ≤ 64 ∧ beg l = l.length ∧ l ≠ tru ∧ l ≠ fls) && ((tlB l).isEmpty || !digC ((tlB l).headD 0))
/-- may a byte stand there? -/
def atB (l : List UInt8) (i : Nat) (c : UInt8) : Bool := clsC c && !(digC c && (decide (i = 0) || (decide (i = 1) && ledB l)))
/-- the document's way -/
def namR (l : List UInt8) : Bool := decide (l ≠ [] ∧ l.length ≤ 64 ∧ l ≠ tru ∧ l ≠ fls) && (List.range l.length).all fun i => atB l i (l.getD i 0)
theorem namR_all (l : List UInt8) : ((List.range l.length).all fun i => atB l i (l.getD i 0)) = true ↔ ∀ (i : Nat) c, l[i]? = some c → atB l i c = true := by
  rw [List.all_eq_true]
  constructor
  · intro h i c hc
    obtain ⟨hi, e⟩ := List.getElem?_eq_some_iff.1 hc
    have := h i (List.mem_range.2 hi)
    rw [List.getD, hc] at this
    exact this
  · intro h i hi
    have hi' := List.mem_range.1 hi
    have := h i l[i] (List.getElem?_eq_getElem hi')
    rw [List.getD, List.getElem?_eq_getElem hi']
    exact this
theorem led_dig {c : UInt8} (h : sgl.contains c = true) : digC c = false := by
  have h1 : c ∈ sgl := by simpa using h
  rcases List.mem_cons.1 h1 with rfl | h1
  · rfl
  · rcases List.mem_cons.1 h1 with rfl | h1
    · rfl
    · rcases List.mem_cons.1 h1 with rfl | h1
      · rfl
      · cases h1
theorem nam_one (l : List UInt8) : namP l = namR l := by
  rw [Bool.eq_iff_iff]
  unfold namP namR
  rw [Bool.and_eq_true, Bool.and_eq_true, decide_eq_true_eq, decide_eq_true_eq, namR_all, beg_all]
  have key : ∀ (hl : l ≠ []), (((tlB l).isEmpty || !digC ((tlB l).headD 0)) = true ↔ ∀ (i : Nat) c, l[i]? = some c → (digC c && (decide (i = 0) || (decide (i = 1) && ledB l))) = false) := by
    intro hl
    match l, hl with
    | a :: r, _ =>
      by_cases hs : sgl.contains a = true
      · have e1 : ledB (a :: r) = true := hs
        have e2 : tlB (a :: r) = r := by unfold tlB; rw [e1]; rfl
        rw [e2, e1]
        constructor
        · intro h i c hc
          match i, hc with
          | 0, hc =>
            simp at hc
            subst hc
            rw [led_dig hs]; rfl
          | 1, hc =>
            match r, hc, h with
            | b :: r', hc, h =>
              simp at hc
              subst hc
              simpa using h
          | i + 2, hc => simp
        · intro h
          match r, h with
          | [], _ => rfl
          | b :: r', h =>
            have := h 1 b rfl
            simpa using this
      · have e1 : ledB (a :: r) = false := by rw [← Bool.not_eq_true]; exact hs
        have e2 : tlB (a :: r) = a :: r := by unfold tlB; rw [e1]; rfl
        rw [e2, e1]
        constructor
        · intro h i c hc
          match i, hc with
          | 0, hc =>
            simp at hc
            subst hc
            simpa using h
          | i + 1, hc => simp
        · intro h
          have := h 0 a rfl
          simpa using this
  constructor
  · rintro ⟨⟨h1, h2, h3, h4, h5⟩, h6⟩
    refine ⟨⟨h1, h2, h4, h5⟩, fun i c hc => ?_⟩
    unfold atB
    rw [h3 i c hc, (key h1).1 h6 i c hc]; rfl
  · rintro ⟨⟨h1, h2, h4, h5⟩, h6⟩
    have h7 : ∀ (i : Nat) c, l[i]? = some c → clsC c = true ∧ (digC c && (decide (i = 0) || (decide (i = 1) && ledB l))) = false := fun i c hc => by
      have := h6 i c hc
      unfold atB at this
      rw [Bool.and_eq_true, Bool.not_eq_true'] at this
      exact this
    exact ⟨⟨h1, h2, fun i c hc => (h7 i c hc).1, h4, h5⟩, (key h1).2 fun i c hc => (h7 i c hc).2⟩
theorem idx_has (l : List UInt8) (c : UInt8) : (∃ k : Nat, Lib.indexByte l c = (k : Int)) ∧ l.contains c = true ∨ Lib.indexByte l c = -1 ∧ l.contains c = false := by
  have h := Lib.indexByte_ge l c
  rcases (by omega : Lib.indexByte l c = -1 ∨ 0 ≤ Lib.indexByte l c) with e | e
  · refine .inr ⟨e, ?_⟩
    rw [← Bool.not_eq_true]
    intro hc
    have hm : c ∈ l := by simpa using hc
    obtain ⟨k, hk, rfl⟩ := List.mem_iff_getElem.1 hm
    exact Lib.indexByte_none e k (List.getElem?_eq_getElem hk)
  · obtain ⟨k, hk⟩ := Int.eq_ofNat_of_zero_le e
    refine .inl ⟨⟨k, hk⟩, ?_⟩
    have := (Lib.indexByte_some hk).1
    obtain ⟨hk', e'⟩ := List.getElem?_eq_some_iff.1 this
    have hm : c ∈ l := by rw [← e']; exact List.getElem_mem hk'
    simpa using hm
end Go.Proofs.YthbighnkohjfnaaGreatDoor

/-
  CONTRACTS: the classes of bytes of package text.
-/
namespace Go.Proofs.YthbighnkohjfnaaGreatDoor
open Go.RowKit

set_option maxRecDepth 100000 in
set_option maxHeartbeats 400000 in
theorem idxByte_any (s : ByteArray) (c : UInt8) (w : World) :
    Calls Tryz.prog 44 #[.string s, .int .u8 (c.toNat : Int)] w fun e w' => e = .returned (.int .i64 (Lib.indexByte s.data.toList c)) ∧ w = w' := by
  have hc : ((c.toNat : Int).toNat.toUInt8) = c := by simp
  have inner : Calls Tryz.prog 59 #[.string s, .int .u8 (c.toNat : Int)] w fun e w' => e = .returned (.int .i64 (Lib.indexByte s.data.toList c)) ∧ w = w' := by
    go_enter Tryz.func59, Tryz.ntmps59
    go_wp2
    rw [run_callFunc_extern Tryz.func76 (by kernel_rfl) (by kernel_rfl) (by kernel_rfl) (e := Extern.BytealgIndexByte.indexByte) (by kernel_rfl), Lib.run_indexByteString s (c.toNat : Int) w, hc]
    simp only [Result.andThen]
    rw [Oper.upon_value]
    go_wp2
    go_ret
    exact ⟨rfl, rfl⟩
  go_enter Tryz.func44, Tryz.ntmps44
  go_wp2_with fail
  refine inner.mono ?_
  rintro e w' ⟨rfl, rfl⟩
  go_wp2
  go_ret
  exact ⟨rfl, rfl⟩

set_option maxHeartbeats 400000 in
theorem betw1_any (lo hi : Int) (c : UInt8) (b1 b2 : Nat) (w : World) (h1 : w.cell? ⟨b1, 0, none⟩ = some (.int .u8 lo)) (h2 : w.cell? ⟨b2, 0, none⟩ = some (.int .u8 hi)) :
    Calls Tryz.prog 41 #[.int .u8 (c.toNat : Int), .pointer (some ⟨b1, 0, none⟩), .pointer (some ⟨b2, 0, none⟩)] w fun e w' => e = .returned (.bool (decide (lo ≤ (c.toNat : Int) ∧ (c.toNat : Int) ≤ hi))) ∧ w = w' := by
  by_cases h : lo ≤ (c.toNat : Int)
  · by_cases h' : (c.toNat : Int) ≤ hi
    · rw [decide_eq_true ⟨h, h'⟩]
      go_enter Tryz.func41, Tryz.ntmps41
      go_wp2
      go_ret
      exact ⟨rfl, rfl⟩
    · rw [decide_eq_false (fun e => h' e.2)]
      go_enter Tryz.func41, Tryz.ntmps41
      go_wp2
      go_ret
      exact ⟨rfl, rfl⟩
  · rw [decide_eq_false (fun e => h e.1)]
    go_enter Tryz.func41, Tryz.ntmps41
    go_wp2
    go_ret
    exact ⟨rfl, rfl⟩
set_option maxHeartbeats 400000 in
theorem oneOf1_any (s : ByteArray) (c : UInt8) (b1 : Nat) (w : World) (h1 : w.cell? ⟨b1, 0, none⟩ = some (.string s)) :
    Calls Tryz.prog 43 #[.int .u8 (c.toNat : Int), .pointer (some ⟨b1, 0, none⟩)] w fun e w' => e = .returned (.bool (s.data.toList.contains c)) ∧ w = w' := by
  have hcon := idxByte_any s c w
  rcases idx_has s.data.toList c with ⟨⟨k, hk⟩, hc⟩ | ⟨hk, hc⟩
  · rw [hk] at hcon
    rw [hc]
    have H := Lib.hid hcon
    clear hcon hk hc
    go_enter Tryz.func43, Tryz.ntmps43
    go_wp2_with fail
    refine H.out.mono ?_
    rintro e w' ⟨rfl, rfl⟩
    go_wp2
    go_ret
    exact ⟨rfl, rfl⟩
  · rw [hk] at hcon
    rw [hc]
    have H := Lib.hid hcon
    clear hcon hk hc
    go_enter Tryz.func43, Tryz.ntmps43
    go_wp2_with fail
    refine H.out.mono ?_
    rintro e w' ⟨rfl, rfl⟩
    go_wp2
    go_ret
    exact ⟨rfl, rfl⟩

/-- what a closure between has -/
def BwV (b1 b2 : Nat) : Value := .func (.func 41) #[] #[.pointer (some ⟨b1, 0, none⟩), .pointer (some ⟨b2, 0, none⟩)]
set_option maxHeartbeats 400000 in
theorem between_any (lo hi : Int) (w : World) :
    Calls Tryz.prog 22 #[.int .u8 lo, .int .u8 hi] w fun e w' => e = .returned (.func (.func 41) #[] #[.pointer (some ⟨w.heap.size, 0, none⟩), .pointer (some ⟨w.heap.size + 1, 0, none⟩)]) ∧ (w'.cell? ⟨w.heap.size, 0, none⟩ = some (.int .u8 lo) ∧ w'.cell? ⟨w.heap.size + 1, 0, none⟩ = some (.int .u8 hi)) ∧ Below w.heap.size w w' ∧ w'.heap.size = w.heap.size + 2 := by
  go_enter Tryz.func22, Tryz.ntmps22
  go_wp2
  go_ret
  refine ⟨rfl, ⟨?_, ?_⟩, ((Below.refl _ _).alloc (Nat.le_refl _) _).alloc (by simp) _, by simp⟩
  · simp
  · simp
set_option maxHeartbeats 400000 in
theorem oneOf_any (s : ByteArray) (w : World) :
    Calls Tryz.prog 24 #[.string s] w fun e w' => e = .returned (.func (.func 43) #[] #[.pointer (some ⟨w.heap.size, 0, none⟩)]) ∧ w'.cell? ⟨w.heap.size, 0, none⟩ = some (.string s) ∧ Below w.heap.size w w' ∧ w'.heap.size = w.heap.size + 1 := by
  go_enter Tryz.func24, Tryz.ntmps24
  go_wp2
  go_ret
  refine ⟨rfl, ?_, (Below.refl _ _).alloc (Nat.le_refl _) _, by simp⟩
  simp
set_option maxHeartbeats 400000 in
theorem either_any (v : Value) (hv : ∃ A n c, v = .slice A n c) (w : World) :
    Calls Tryz.prog 23 #[v] w fun e w' => e = .returned (.func (.func 42) #[] #[.pointer (some ⟨w.heap.size, 0, none⟩)]) ∧ w'.cell? ⟨w.heap.size, 0, none⟩ = some v ∧ Below w.heap.size w w' ∧ w'.heap.size = w.heap.size + 1 := by
  obtain ⟨A, n, c, rfl⟩ := hv
  go_enter Tryz.func23, Tryz.ntmps23
  go_wp2
  go_ret
  refine ⟨rfl, ?_, (Below.refl _ _).alloc (Nat.le_refl _) _, by simp⟩
  simp
end Go.Proofs.YthbighnkohjfnaaGreatDoor

/-
  CONTRACTS: the class of a name's bytes; with how many a text begins; the document's in.
-/
namespace Go.Proofs.YthbighnkohjfnaaGreatDoor
open Go.RowKit

/-- where the closures of a name's class stand -/
structure NmAt (W : World) (Bc Bs b1 b2 b3 b4 b5 : Nat) : Prop where
  c : W.cell? ⟨Bc, 0, none⟩ = some (.slice (some ⟨Bs, 0, none⟩) 3 3)
  f0 : W.cell? ⟨Bs, 0, none⟩ = some (.func (.func 41) #[] #[.pointer (some ⟨b1, 0, none⟩), .pointer (some ⟨b2, 0, none⟩)])
  f1 : W.cell? ⟨Bs, 1, none⟩ = some (.func (.func 41) #[] #[.pointer (some ⟨b3, 0, none⟩), .pointer (some ⟨b4, 0, none⟩)])
  f2 : W.cell? ⟨Bs, 2, none⟩ = some (.func (.func 43) #[] #[.pointer (some ⟨b5, 0, none⟩)])
  p1 : W.cell? ⟨b1, 0, none⟩ = some (.int .u8 97)
  p2 : W.cell? ⟨b2, 0, none⟩ = some (.int .u8 122)
  p3 : W.cell? ⟨b3, 0, none⟩ = some (.int .u8 48)
  p4 : W.cell? ⟨b4, 0, none⟩ = some (.int .u8 57)
  p5 : W.cell? ⟨b5, 0, none⟩ = some (.string ⟨#[63, 95, 43, 45, 42, 47, 60, 62, 61, 33, 46, 37, 38]⟩)
/-- the first k classes -/
def clsK (c : UInt8) : Nat → Bool
  | 0 => lowC c
  | 1 => digC c
  | _ => sgs.contains c
set_option maxRecDepth 100000 in
set_option maxHeartbeats 1000000 in
theorem either1_any (Bc Bs b1 b2 b3 b4 b5 : Nat) (c : UInt8) (w : World) (h : NmAt w Bc Bs b1 b2 b3 b4 b5) :
    Calls Tryz.prog 42 #[.int .u8 (c.toNat : Int), .pointer (some ⟨Bc, 0, none⟩)] w fun e w' => e = .returned (.bool (clsC c)) ∧ w = w' := by
  obtain ⟨hc, f0, f1, f2, p1, p2, p3, p4, p5⟩ := h
  have H1 := Lib.hid (betw1_any 97 122 c b1 b2 w p1 p2)
  have H2 := Lib.hid (betw1_any 48 57 c b3 b4 w p3 p4)
  have H3 := Lib.hid (oneOf1_any ⟨#[63, 95, 43, 45, 42, 47, 60, 62, 61, 33, 46, 37, 38]⟩ c b5 w p5)
  clear p1 p2 p3 p4 p5
  have HC : Hid (clsC c = (lowC c || (digC c || sgs.contains c))) := rfl
  obtain ⟨r1, hr1⟩ : ∃ r, lowC c = r := ⟨_, rfl⟩
  obtain ⟨r2, hr2⟩ : ∃ r, digC c = r := ⟨_, rfl⟩
  obtain ⟨r3, hr3⟩ : ∃ r, sgs.contains c = r := ⟨_, rfl⟩
  have K1 : Hid (Calls Tryz.prog 41 #[.int .u8 (c.toNat : Int), .pointer (some ⟨b1, 0, none⟩), .pointer (some ⟨b2, 0, none⟩)] w fun e w' => e = .returned (.bool r1) ∧ w = w') := by rw [← hr1]; exact H1.out
  have K2 : Hid (Calls Tryz.prog 41 #[.int .u8 (c.toNat : Int), .pointer (some ⟨b3, 0, none⟩), .pointer (some ⟨b4, 0, none⟩)] w fun e w' => e = .returned (.bool r2) ∧ w = w') := by rw [← hr2]; exact H2.out
  have K3 : Hid (Calls Tryz.prog 43 #[.int .u8 (c.toNat : Int), .pointer (some ⟨b5, 0, none⟩)] w fun e w' => e = .returned (.bool r3) ∧ w = w') := by rw [← hr3]; exact H3.out
  rw [hr1, hr2, hr3] at HC
  clear hr1 hr2 hr3 H1 H2 H3
  go_enter Tryz.func42, Tryz.ntmps42
  go_wp2
  go_loopg [5, 8] 3 (fun g _ x8 wr => ∃ k : Nat, k + g = 3 ∧ x8 = .int .i64 k ∧ wr = w ∧ Hid ((0 < k → r1 = false) ∧ (1 < k → r2 = false) ∧ (2 < k → r3 = false)))
  case atStart => exact ⟨0, by omega, rfl, rfl, fun h => by omega, fun h => by omega, fun h => by omega⟩
  case round =>
    obtain ⟨k, hk, rfl, rfl, HF⟩ := hrel
    rcases (by omega : k = 0 ∨ k = 1 ∨ k = 2 ∨ k = 3) with rfl | rfl | rfl | rfl
    · obtain rfl : gk = 2 + 1 := by omega
      go_wp2_with fail
      refine K1.out.mono ?_
      rintro e w' ⟨rfl, rfl⟩
      cases r1 with
      | true =>
        go_wp2
        go_ret
        exact ⟨by rw [HC.out]; rfl, rfl⟩
      | false =>
        go_wp2
        go_roundg 2
        case measure => omega
        case rel => exact ⟨1, rfl, rfl, rfl, by intros; trivial, by intros; omega, by intros; omega⟩
    · obtain rfl : gk = 1 + 1 := by omega
      obtain rfl := HF.out.1 (by decide)
      go_wp2_with fail
      refine K2.out.mono ?_
      rintro e w' ⟨rfl, rfl⟩
      cases r2 with
      | true =>
        go_wp2
        go_ret
        exact ⟨by rw [HC.out]; rfl, rfl⟩
      | false =>
        go_wp2
        go_roundg 1
        case measure => omega
        case rel => exact ⟨2, rfl, rfl, rfl, by intros; trivial, by intros; trivial, by intros; omega⟩
    · obtain rfl : gk = 0 + 1 := by omega
      obtain rfl := HF.out.1 (by decide)
      obtain rfl := HF.out.2.1 (by decide)
      go_wp2_with fail
      refine K3.out.mono ?_
      rintro e w' ⟨rfl, rfl⟩
      cases r3 with
      | true =>
        go_wp2
        go_ret
        exact ⟨by rw [HC.out]; rfl, rfl⟩
      | false =>
        go_wp2
        go_roundg 0
        case measure => omega
        case rel => exact ⟨3, rfl, rfl, rfl, by intros; trivial, by intros; trivial, by intros; trivial⟩
    · obtain rfl := HF.out.1 (by decide)
      obtain rfl := HF.out.2.1 (by decide)
      obtain rfl := HF.out.2.2 (by decide)
      go_wp2
      go_ret
      exact ⟨by rw [HC.out]; rfl, rfl⟩

set_option maxRecDepth 100000 in
set_option maxHeartbeats 1000000 in
theorem begins_any' (Bc Bs b1 b2 b3 b4 b5 : Nat) (s : ByteArray) (w : World) (h : NmAt w Bc Bs b1 b2 b3 b4 b5) (hs : s.size ≤ 100000) :
    Calls Tryz.prog 25 #[.func (.func 42) #[] #[.pointer (some ⟨Bc, 0, none⟩)], .string s] w fun e w' => e = .returned (.int .i64 (beg s.data.toList : Int)) ∧ w = w' := by
  have HN := Lib.hid h
  clear h
  go_enter Tryz.func25, Tryz.ntmps25
  go_wp2
  go_loopg [5] s.size (fun g x wr => ∃ k : Nat, k + g = s.size ∧ x = .int .i64 k ∧ wr = w ∧ Hid (∀ (j : Nat) d, j < k → s.data.toList[j]? = some d → clsC d = true))
  case atStart => exact ⟨0, by omega, rfl, rfl, fun j d hj => by omega⟩
  case round =>
    obtain ⟨k, hk, rfl, rfl, HF⟩ := hrel
    cases gk with
    | zero =>
      have hks : ¬ ((k : Int) < (s.size : Int)) := by omega
      have HB : Hid (beg s.data.toList = k) := by
        have hl : s.data.toList.length = s.size := by simp
        have := (beg_all s.data.toList).2 fun j d hd => HF.out j d (by have := (List.getElem?_eq_some_iff.1 hd).1; omega) hd
        show _ = _
        omega
      go_wp2
      go_ret
      exact ⟨by rw [HB.out]; rfl, rfl⟩
    | succ g =>
      have hki : (k : Int) < (s.size : Int) := by omega
      have hkn : k < s.size := by omega
      have HD : Hid (s.data.toList[k]? = some s[k]) := by
        show _ = _
        rw [List.getElem?_eq_getElem (by simpa using hkn)]; rfl
      have HK := Lib.hid (either1_any Bc Bs b1 b2 b3 b4 b5 s[k] wr HN.out)
      obtain ⟨d, hd⟩ : ∃ d, s[k] = d := ⟨_, rfl⟩
      obtain ⟨r, hr⟩ : ∃ r, clsC s[k] = r := ⟨_, rfl⟩
      rw [hr] at HK
      have HR := Lib.hid hr
      clear hr hd
      go_wp2_with fail
      refine HK.out.mono ?_
      rintro e w' ⟨rfl, rfl⟩
      cases r with
      | true =>
        go_wp2
        go_roundg g
        case measure => omega
        case rel =>
          refine ⟨k + 1, by omega, by go_num, rfl, fun j d hj hd => ?_⟩
          by_cases e : j = k
          · subst e
            rw [HD.out] at hd
            rw [← Option.some.inj hd]; exact HR.out
          · exact HF.out j d (by omega) hd
      | false =>
        have HB : Hid (beg s.data.toList = k) := beg_step _ k s[k] HF.out HD.out HR.out
        go_wp2
        go_ret
        exact ⟨by rw [HB.out]; rfl, rfl⟩

set_option maxRecDepth 100000 in
set_option maxHeartbeats 1000000 in
theorem refIn_any (s : ByteArray) (c : UInt8) (w : World) (hs : s.size ≤ 100000) :
    Calls Tryz.prog 39 #[.string s, .int .u8 (c.toNat : Int)] w fun e w' => e = .returned (.bool (s.data.toList.contains c)) ∧ w = w' := by
  obtain ⟨r, hr⟩ : ∃ r, s.data.toList.contains c = r := ⟨_, rfl⟩
  rw [hr]
  have HR := Lib.hid hr
  clear hr
  go_enter Tryz.func39, Tryz.ntmps39
  go_wp2
  go_loopg [5] s.size (fun g x wr => ∃ k : Nat, k + g = s.size ∧ x = .int .i64 k ∧ wr = w ∧ Hid (∀ (j : Nat) d, j < k → s.data.toList[j]? = some d → d ≠ c))
  case atStart => exact ⟨0, by omega, rfl, rfl, fun j d hj => by omega⟩
  case round =>
    obtain ⟨k, hk, rfl, rfl, HF⟩ := hrel
    cases gk with
    | zero =>
      have hks : ¬ ((k : Int) < (s.size : Int)) := by omega
      have HB : Hid (r = false) := by
        show _ = _
        rw [← HR.out]
        rw [← Bool.not_eq_true]
        intro hc
        have hm : c ∈ s.data.toList := by simpa using hc
        obtain ⟨j, hj, rfl⟩ := List.mem_iff_getElem.1 hm
        have hl : s.data.toList.length = s.size := by simp
        exact HF.out j _ (by omega) (List.getElem?_eq_getElem hj) rfl
      go_wp2
      go_ret
      exact ⟨by rw [HB.out]; rfl, rfl⟩
    | succ g =>
      have hki : (k : Int) < (s.size : Int) := by omega
      have hkn : k < s.size := by omega
      have HD : Hid (s.data.toList[k]? = some s[k]) := by
        show _ = _
        rw [List.getElem?_eq_getElem (by simpa using hkn)]; rfl
      by_cases he : s[k] = c
      · have hei : ((s[k].toNat : Int) == (c.toNat : Int)) = true := by rw [he]; simp
        have HB : Hid (r = true) := by
          show _ = _
          rw [← HR.out]
          have hm : c ∈ s.data.toList := by
            rw [← he]
            exact List.mem_of_getElem? HD.out
          simpa using hm
        clear he
        go_wp2
        go_ret
        exact ⟨by rw [HB.out]; rfl, rfl⟩
      · have hei : ((s[k].toNat : Int) == (c.toNat : Int)) = false := by
          rw [beq_eq_false_iff_ne]
          intro h
          exact he (UInt8.toNat_inj.1 (by omega))
        have HE := Lib.hid he
        clear he
        go_wp2
        go_roundg g
        case measure => omega
        case rel =>
          refine ⟨k + 1, by omega, by go_num, rfl, fun j d hj hd => ?_⟩
          by_cases e : j = k
          · subst e
            rw [HD.out] at hd
            rw [← Option.some.inj hd]; exact HE.out
          · exact HF.out j d (by omega) hd
end Go.Proofs.YthbighnkohjfnaaGreatDoor
