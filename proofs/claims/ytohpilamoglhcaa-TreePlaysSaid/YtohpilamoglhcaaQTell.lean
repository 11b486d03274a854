/-
  CONTRACTS: tell, told: the iterator over a tree's pairs from a key on.
-/
import Derived.Test.YtohpilamoglhcaaQFind
import Derived.RangeFuncNested
import Derived.RangeFuncBound
import Derived.RangeFuncCalls
import Derived.RangeFuncLeaves
import Derived.RangeFuncBox
import Derived.Shelf.Abstract
import Derived.Shelf.RegionOpen
import Derived.OwnWalkIn
import Derived.TacticsInMore
import Derived.LoopNIn
import Derived.LoopIn
import Derived.Laws.EntriesVeiled
namespace Go.Proofs.Ytohpilamoglhcaa
open Go.RowKit Go.Shelf
attribute [local go_sem] Oper.semAt_some

theorem wide_deep (k : Nat) : Fence.wide.depth.isSome = true → 1 ≤ k := fun h => by cases h
theorem wide_room (k : Nat) : Fence.wide.room k := fun d h => by cases h
theorem RoundIn.anyDepth {m m' : Nat} {P : Program} {l : Nat} {f : FuncId} {tmps : Array Value} {assign body : Code} {w : World} {R : Ending → World → Prop}
    (h : RoundIn Fence.wide m P l f tmps assign body w R) : RoundIn Fence.wide m' P l f tmps assign body w R := ⟨h.1, fun c cs _ => h.2 c cs (wide_room _)⟩
theorem YieldAt.anyDepth {m : Nat} (m' : Nat) {P : Program} {l : Nat} {args : Array Value} {W : World} {R : Ending → World → Prop} (h : YieldAt Fence.wide m P l args W R) : YieldAt Fence.wide m' P l args W R := by
  obtain ⟨fn, tmps, assign, body, hy, hR⟩ := h
  exact ⟨fn, tmps, assign, body, hy, RoundIn.anyDepth hR⟩

/-- a pair with its block -/
abbrev PrB [LT Gb] (w0 : World) := { x : Nat × Pr // PairAt w0 x.1 x.2 ∧ x.2.1.length ≤ 100000 ∧ x.2.2.length ≤ 100000 }
/-- a tree's pairs with their blocks -/
def TB [LT Gb] (w0 : World) : Tr → List (PrB w0) → Prop
  | .nil, ps => ps = []
  | .nd b p l r, ps => ∃ x L R, ps = L ++ x :: R ∧ x.1.2 = p ∧ NodeAt w0 b x.1.1 l.ptr r.ptr ((Tr.nd b p l r).cnt : Nat) ∧ TB w0 l L ∧ TB w0 r R
theorem tb_of [LT Gb] {w0 : World} : ∀ {t : Tr}, TreeAt w0 t → (∀ q ∈ t.list, q.1.length ≤ 100000 ∧ q.2.length ≤ 100000) → ∃ ps, TB w0 t ps
  | .nil, _, _ => ⟨[], rfl⟩
  | .nd b p l r, ⟨⟨pb, h1, h2⟩, hl, hr⟩, hs => by
    obtain ⟨L, hL⟩ := tb_of hl (fun q hq => hs q (by simp [Tr.list, hq]))
    obtain ⟨R, hR⟩ := tb_of hr (fun q hq => hs q (by simp [Tr.list, hq]))
    have hp := hs p (by simp [Tr.list])
    exact ⟨L ++ ⟨(pb, p), h2, hp⟩ :: R, ⟨(pb, p), h2, hp⟩, L, R, rfl, rfl, h1, hL, hR⟩
theorem tb_list [LT Gb] {w0 : World} : ∀ {t : Tr} {ps : List (PrB w0)}, TB w0 t ps → ps.map (·.1.2) = t.list
  | .nil, _, h => by subst h; rfl
  | .nd b p l r, _, ⟨x, L, R, h, hp, _, hL, hR⟩ => by
    subst h
    rw [List.map_append, List.map_cons, tb_list hL, tb_list hR, hp]
    rfl
theorem tb_at [LT Gb] {w0 : World} : ∀ {t : Tr} {ps : List (PrB w0)}, TB w0 t ps → TreeAt w0 t
  | .nil, _, _ => trivial
  | .nd b p l r, _, ⟨x, L, R, _, hp, hn, hL, hR⟩ => ⟨⟨x.1.1, hn, by have := x.2.1; rw [hp] at this; exact this⟩, tb_at hL, tb_at hR⟩
/-- those from a key on -/
def fromQ [LT Gb] {w0 : World} (k : By) (ps : List (PrB w0)) : List (PrB w0) := ps.filter (fun x => decide (0 ≤ ordL x.1.2.1 k))
theorem fromQ_len [LT Gb] {w0 : World} (k : By) (ps : List (PrB w0)) : (fromQ k ps).length ≤ ps.length := List.length_filter_le _ _
theorem ordL_nil_ge (l : By) : 0 ≤ ordL l [] := by cases l <;> simp [ordL]
theorem fromQ_nil [LT Gb] {w0 : World} (ps : List (PrB w0)) : fromQ [] ps = ps := List.filter_eq_self.2 (fun x _ => by simpa using ordL_nil_ge _)
theorem mem_keys [LT Gb] {w0 : World} {t : Tr} {ps : List (PrB w0)} (h : TB w0 t ps) {x : PrB w0} (hx : x ∈ ps) : x.1.2 ∈ t.list := by
  rw [← tb_list h]
  exact List.mem_map.2 ⟨x, hx, rfl⟩
theorem fromQ_low [LT Gb] {w0 : World} {b : Nat} {p : Pr} {l r : Tr} {x : PrB w0} {L R : List (PrB w0)} {k : By} (hR : Rise (Tr.nd b p l r).list) (hp : x.1.2 = p) (hL : TB w0 l L) (hk : ordL p.1 k = -1) : fromQ k (L ++ x :: R) = fromQ k R := by
  obtain ⟨_, _, h3, _, _⟩ := rise_nd.1 hR
  unfold fromQ
  rw [List.filter_append, List.filter_cons_of_neg (by rw [hp]; simp; omega)]
  have : L.filter (fun x => decide (0 ≤ ordL x.1.2.1 k)) = [] := by
    rw [List.filter_eq_nil_iff]
    intro y hy
    have := qo_trans _ _ _ (h3 _ (mem_keys hL hy)) hk
    simp
    omega
  rw [this]
  rfl
theorem fromQ_high [LT Gb] {w0 : World} {b : Nat} {p : Pr} {l r : Tr} {x : PrB w0} {L R : List (PrB w0)} {k : By} (hR : Rise (Tr.nd b p l r).list) (hp : x.1.2 = p) (hr : TB w0 r R) (hk : 0 ≤ ordL p.1 k) : fromQ k (L ++ x :: R) = fromQ k L ++ x :: R := by
  obtain ⟨_, _, _, h4, _⟩ := rise_nd.1 hR
  unfold fromQ
  rw [List.filter_append, List.filter_cons_of_pos (by rw [hp]; simpa using hk)]
  congr 2
  refine List.filter_eq_self.2 (fun y hy => ?_)
  simpa using qo_ge_trans hk (h4 _ (mem_keys hr hy))

/-- One round of the loop that is handed pairs. -/
def HandsQ [LT Gb] (w0 : World) (lp N : Nat) (J Jx : List (PrB w0) → World → Prop) : Prop :=
  ∀ m pre (x : PrB w0) W, J pre W → pre.length < N → YieldAt Fence.wide m Try.prog lp #[.pointer (some ⟨x.1.1, 0, none⟩)] W fun e W' =>
    (e = .returned (.bool true) ∧ J (pre ++ [x]) W' ∧ Below w0.heap.size W W') ∨ (e = .returned (.bool false) ∧ Jx (pre ++ [x]) W')
/-- what tell leaves -/
def TellEnd [LT Gb] (w0 : World) (J Jx : List (PrB w0) → World → Prop) (pre seg : List (PrB w0)) (W : World) (e : Ending) (W' : World) : Prop :=
  (e = .returned (.bool true) ∧ J (pre ++ seg) W' ∧ Below w0.heap.size W W') ∨ (e = .returned (.bool false) ∧ ∃ q, q <+: seg ∧ Jx (pre ++ q) W')
set_option maxRecDepth 100000 in
set_option maxHeartbeats 4000000 in
theorem tell_in [LT Gb] (w0 : World) (lp N : Nat) (J Jx : List (PrB w0) → World → Prop) (hY : HandsQ w0 lp N J Jx) (t : Tr) :
    ∀ (n : Nat) (ps pre : List (PrB w0)) (A : Option Addr) (c : Nat) (k : By) (W : World), TB w0 t ps → Rise t.list → SlB w0 w0.heap.size A k → Below w0.heap.size w0 W → J pre W → pre.length + ps.length ≤ N →
      CallsIn Fence.wide n Try.prog 88 #[t.ptr, .slice A k.length c, .func (.yield lp) #[] #[]] W (TellEnd w0 J Jx pre (fromQ k ps) W) := by
  induction t with
  | nil =>
    intro n ps pre A c k W hT _ _ _ hJ _
    have hps : ps = [] := hT
    subst hps
    have hf : TellEnd w0 J Jx pre (fromQ k []) W (.returned (.bool true)) W := .inl ⟨rfl, by simpa [fromQ] using hJ, Below.refl _ _⟩
    simp only [Tr.ptr]
    refine callsIn_of_wp Try.func88 rfl trivial ?_ rfl
    simp only [Try.ntmps88, List.size_toArray, List.length_cons, List.length_nil, Nat.reduceAdd, Nat.reduceSub, Array.replicate_succ, Array.replicate_zero, List.push_toArray, List.append_toArray, List.nil_append, List.cons_append]
    gi_wp2
    go_ret
    exact hf
  | nd b p l r ihl ihr =>
    intro n ps pre A c k W hT hR hk hB hJ hN
    obtain ⟨x, L, R, rfl, hp, hnd, hL, hRr⟩ := hT
    obtain ⟨h1, h2, _⟩ := rise_nd.1 hR
    obtain ⟨A2, c2, A3, c3, hpb, hpk, _⟩ := x.2.1
    replace hpk := hpk.1
    have hbl := (Array.getElem?_eq_some_iff.1 hpb).1
    rw [hp] at hpb hpk
    have HCM := Lib.hid (cmpB_any A2 A c2 c p.1 k W (hpk.next hB (Nat.le_refl _)) (hk.next hB (Nat.le_refl _)))
    have hlen : pre.length + (L.length + (R.length + 1)) ≤ N := by rw [List.length_append, List.length_cons] at hN; omega
    have hndW := hnd.next hB (Nat.le_refl _)
    have c0 := hndW.c0
    have p0 : W.cell? ⟨x.1.1, 0, none⟩ = some (.slice A2 p.1.length c2) := by
      rw [hB.cell (p := ⟨x.1.1, 0, none⟩) hbl]
      simp [World.cell?, hpb]
    obtain ⟨ul, hul⟩ := l.ptr_pointer
    obtain ⟨ur, hur⟩ := r.ptr_pointer
    have hnl := Array.getElem?_eq_some_iff.1 hnd
    have HND : Hid (∀ X, Below w0.heap.size w0 X → NodeAt X b x.1.1 (.pointer ul) (.pointer ur) ((Tr.nd b p l r).cnt : Nat)) := fun X hX => by rw [← hul, ← hur]; exact hnd.next hX (Nat.le_refl _)
    obtain ⟨o, ho⟩ : ∃ o, ordL p.1 k = o := ⟨_, rfl⟩
    rw [ho] at HCM
    by_cases g : o < 0
    · have g' : decide (o < 0) = true := decide_eq_true g
      have hlow : ordL p.1 k = -1 := by have := ordL_range p.1 k; omega
      have HI := Lib.hid (ihr (n - 1) R pre A c k W hRr h2 hk hB hJ (by omega))
      rw [hur] at HI
      have c2 := (HND.out W hB).c2
      have HFQ := Lib.hid (fromQ_low (R := R) hR hp hL hlow)
      clear ihl ihr hL hRr hR h1 h2 hk hJ hN hnd hndW hnl hpb hpk hbl hlow ho hul hur hlen hB
      show CallsIn _ _ _ _ #[.pointer (some ⟨b, 0, none⟩), _, _] W _
      rw [HFQ.out]
      refine callsIn_of_wp Try.func88 rfl trivial ?_ rfl
      simp only [Try.ntmps88, List.size_toArray, List.length_cons, List.length_nil, Nat.reduceAdd, Nat.reduceSub, Array.replicate_succ, Array.replicate_zero, List.push_toArray, List.append_toArray, List.nil_append, List.cons_append]
      gi_wp2_with fail
      refine ⟨trivial, wide_deep _, ?_⟩
      refine (callsIn_wide.2 HCM.out).mono ?_
      rintro e w' ⟨rfl, rfl⟩
      gi_wp2_with fail
      refine ⟨trivial, wide_deep _, ?_⟩
      refine HI.out.mono ?_
      rintro e W1 (⟨rfl, h⟩ | ⟨rfl, h⟩)
      · have hf : TellEnd w0 J Jx pre (fromQ k R) W (.returned (.bool true)) W1 := .inl ⟨rfl, h⟩
        gi_wp2
        go_ret
        exact hf
      · have hf : TellEnd w0 J Jx pre (fromQ k R) W (.returned (.bool false)) W1 := .inr ⟨rfl, h⟩
        gi_wp2
        go_ret
        exact hf
    · have g' : decide (o < 0) = false := decide_eq_false g
      have HI := Lib.hid (ihl (n - 1) L pre A c k W hL h1 hk hB hJ (by omega))
      rw [hul] at HI
      have HI2 := Lib.hid (fun (pre2 : List (PrB w0)) (W2 : World) (hB2 : Below w0.heap.size w0 W2) (hJ2 : J pre2 W2) (hn2 : pre2.length + R.length ≤ N) => ihr (n - 1) R pre2 none 0 [] W2 hRr h2 (fun h => absurd rfl h) hB2 hJ2 hn2)
      rw [hur] at HI2
      have c1 := (HND.out W hB).c1
      have HFQ := Lib.hid (fromQ_high (L := L) hR hp hRr (show 0 ≤ ordL p.1 k by omega))
      have hfl := fromQ_len k L
      have HLN : Hid (pre.length + ((fromQ k L).length + (R.length + 1)) ≤ N) := by show _ ≤ _; omega
      have HB := Lib.hid hB
      clear ihl ihr hL hRr hR h1 h2 hk hJ hN hnd hndW hnl hpb hpk hbl ho hul hur hlen hB hfl
      show CallsIn _ _ _ _ #[.pointer (some ⟨b, 0, none⟩), _, _] W _
      rw [HFQ.out]
      refine callsIn_of_wp Try.func88 rfl trivial ?_ rfl
      simp only [Try.ntmps88, List.size_toArray, List.length_cons, List.length_nil, Nat.reduceAdd, Nat.reduceSub, Array.replicate_succ, Array.replicate_zero, List.push_toArray, List.append_toArray, List.nil_append, List.cons_append]
      gi_wp2_with fail
      refine ⟨trivial, wide_deep _, ?_⟩
      refine (callsIn_wide.2 HCM.out).mono ?_
      rintro e w' ⟨rfl, rfl⟩
      gi_wp2_with fail
      refine ⟨trivial, wide_deep _, ?_⟩
      refine HI.out.mono ?_
      rintro e W1 (⟨rfl, hJ1, hb1⟩ | ⟨rfl, q, hq, hx⟩)
      · have hB1 := HB.out.trans hb1
        have n1 := (HND.out W1 hB1).c0
        have HB1 := Lib.hid hB1
        have HB01 := Lib.hid hb1
        obtain ⟨fn, tmps, assign, body, hy, hRd⟩ := hY (n - 1) _ x W1 hJ1 (by have := HLN.out; rw [List.length_append]; omega)
        clear hJ1 hb1 hB1 c0 c1 p0
        gi_wp2_with fail
        refine ⟨wide_deep _, ?_⟩
        refine hRd.mono ?_
        rintro e W2 (⟨rfl, hJ2, hb2⟩ | ⟨rfl, hx2⟩)
        · have HB2 := Lib.hid (HB1.out.trans hb2)
          have n2 := (HND.out W2 HB2.out).c2
          have HI3 := Lib.hid (HI2.out _ W2 HB2.out hJ2 (by have := HLN.out; rw [List.length_append, List.length_append, List.length_singleton]; omega))
          have HB02 := Lib.hid (HB01.out.trans hb2)
          clear hJ2 hb2 n1
          gi_wp2_with fail
          refine ⟨trivial, wide_deep _, ?_⟩
          refine HI3.out.mono ?_
          rw [fromQ_nil]
          rintro e W3 (⟨rfl, hJ3, hb3⟩ | ⟨rfl, q, hq, hx3⟩)
          · have hf : TellEnd w0 J Jx pre (fromQ k L ++ x :: R) W (.returned (.bool true)) W3 := .inl ⟨rfl, by simpa using hJ3, HB02.out.trans hb3⟩
            gi_wp2
            go_ret
            exact hf
          · have hf : TellEnd w0 J Jx pre (fromQ k L ++ x :: R) W (.returned (.bool false)) W3 := .inr ⟨rfl, fromQ k L ++ x :: q, by obtain ⟨r', hr'⟩ := hq; exact ⟨r', by simp [← hr']⟩, by simpa using hx3⟩
            gi_wp2
            go_ret
            exact hf
        · have hf : TellEnd w0 J Jx pre (fromQ k L ++ x :: R) W (.returned (.bool false)) W2 := .inr ⟨rfl, fromQ k L ++ [x], ⟨R, by simp⟩, by simpa using hx2⟩
          gi_wp2_with fail
          refine ⟨trivial, ?_⟩
          gi_wp2
          go_ret
          exact hf
      · have hf : TellEnd w0 J Jx pre (fromQ k L ++ x :: R) W (.returned (.bool false)) W1 := .inr ⟨rfl, q, hq.trans (List.prefix_append _ _), hx⟩
        clear hx hq c0 c1 p0
        gi_wp2_with fail
        refine ⟨fun _ h => (by cases h), ?_⟩
        gi_wp2_with fail
        refine ⟨trivial, ?_⟩
        gi_wp2
        go_ret
        exact hf
/-- the iterator's value -/
theorem told_stops [LT Gb] (n N : Nat) (w0 w : World) (B1 B2 : Nat) (t : Tr) (ps : List (PrB w0)) (A : Option Addr) (c : Nat) (k : By) (hT : TB w0 t ps) (hR : Rise t.list) (hk : SlB w0 w0.heap.size A k) (hB : Below w0.heap.size w0 w) (hN : ps.length ≤ N)
    (h1 : w.cell? ⟨B1, 0, none⟩ = some t.ptr) (h2 : w.cell? ⟨B2, 0, none⟩ = some (.slice A k.length c)) (l1 : B1 < w.heap.size) (l2 : B2 < w.heap.size) :
    SeqStopsK Fence.wide n Try.prog 87 #[.pointer (some ⟨B1, 0, none⟩), .pointer (some ⟨B2, 0, none⟩)] (fun x : PrB w0 => #[Value.pointer (some ⟨x.1.1, 0, none⟩)]) (Below w0.heap.size) (fun ys => ys = fromQ k ps) (fun q => q <+: fromQ k ps) N w := fun lp J Jx W hW hA _ hY h0' => by
  have hH : HandsQ w0 lp N J Jx := fun m pre x W1 hj hl => YieldAt.anyDepth m (hY pre x W1 hj hl)
  have b1 := (hW.cell (p := ⟨B1, 0, none⟩) l1).trans h1
  have b2 := (hW.cell (p := ⟨B2, 0, none⟩) l2).trans h2
  have HI := Lib.hid (tell_in w0 lp N J Jx hH t (n - 1) ps [] A c k W hT hR hk (hB.trans (hW.mono hB.size)) h0' (by simpa using hN))
  obtain ⟨ut, hut⟩ := t.ptr_pointer
  rw [hut] at HI b1
  clear hY hA hW h0' h1 h2 hut hH
  refine callsIn_of_wp Try.func87 rfl trivial ?_ rfl
  simp only [Try.ntmps87, List.size_toArray, List.length_cons, List.length_nil, Nat.reduceAdd, Nat.reduceSub, Array.replicate_succ, Array.replicate_zero, List.push_toArray, List.append_toArray, List.nil_append, List.cons_append]
  gi_wp2_with fail
  refine ⟨trivial, wide_deep _, ?_⟩
  refine HI.out.mono ?_
  rintro e W1 (⟨rfl, hJ1, _⟩ | ⟨rfl, q, hq, hx⟩)
  · gi_wp2
    go_end0
    exact ⟨⟨_, rfl⟩, .inl ⟨_, rfl, by simpa using hJ1⟩⟩
  · gi_wp2
    go_end0
    exact ⟨⟨_, rfl⟩, .inr ⟨q, hq, by simpa using hx⟩⟩
set_option maxHeartbeats 400000 in
theorem toldOf_any (u : Option Addr) (A : Option Addr) (c n : Nat) (w : World) :
    Calls Try.prog 47 #[.pointer u, .slice A n c] w fun e w' => e = .returned (.func (.func 87) #[] #[.pointer (some ⟨w.heap.size, 0, none⟩), .pointer (some ⟨w.heap.size + 1, 0, none⟩)]) ∧ w' = (w.alloc (.cells #[.pointer u] 48)).alloc (.cells #[.slice A n c] 57) := by
  go_enter Try.func47, Try.ntmps47
  go_wp2
  go_ret
  exact ⟨rfl, rfl⟩
end Go.Proofs.Ytohpilamoglhcaa
