/-
  CONTRACTS: tellUnlike, unlike: the iterator over the pairs that another tree has not so.
-/
import Derived.Test.YtohpilamoglhcaaQUn
import Derived.LaidEqlPtr
namespace Go.Proofs.Ytohpilamoglhcaa
open Go.RowKit Go.Shelf
attribute [local go_sem] Oper.semAt_some
theorem yield_un3 : Go.yielded.match_1 (fun _ => Option Bool) (some undef) (fun b => some b) (fun _ => none) = none := rfl
attribute [local go_sem] yield_un3

theorem slB_det {w : World} {B B' : Nat} {A : Option Addr} {l l' : By} (h : SlB w B A l) (h' : SlB w B' A l') (hn : l.length = l'.length) : l = l' := by
  refine List.ext_getElem hn (fun j h1 h2 => ?_)
  obtain ⟨a, e, _, hc⟩ := h (fun e => by rw [e] at h1; simp at h1)
  obtain ⟨a', e', _, hc'⟩ := h' (fun e => by rw [e] at h2; simp at h2)
  rw [e] at e'
  injection e' with e'
  subst e'
  have h3 := (hc j _ (List.getElem?_eq_getElem h1)).symm.trans (hc' j _ (List.getElem?_eq_getElem h2))
  injection h3 with h3
  injection h3 with _ h3
  exact UInt8.toNat_inj.1 (by omega)
theorem pair_det [LT Gb] {w : World} {pb : Nat} {p q : Pr} (h : PairAt w pb p) (h' : PairAt w pb q) : p = q := by
  obtain ⟨A, c, A', c', h1, h2, h3⟩ := h
  obtain ⟨B, d, B', d', k1, k2, k3⟩ := h'
  rw [h1] at k1
  simp only [Option.some.injEq, Obj.cells.injEq, Array.mk.injEq, List.cons.injEq, Value.slice.injEq] at k1
  obtain ⟨⟨⟨e1, e2, _⟩, ⟨e3, e4, _⟩, _⟩, _⟩ := k1
  subst e1
  subst e3
  exact Prod.ext (slB_det h2.1 k2.1 (by omega)) (slB_det h3.1 k3.1 (by omega))
theorem tree_det [LT Gb] {w : World} : ∀ {t t' : Tr}, TreeAt w t → TreeAt w t' → t.ptr = t'.ptr → t = t'
  | .nil, .nil, _, _, _ => rfl
  | .nil, .nd .., _, _, h => by simp [Tr.ptr] at h
  | .nd .., .nil, _, _, h => by simp [Tr.ptr] at h
  | .nd b p l r, .nd b' p' l' r', ⟨⟨pb, h1, h2⟩, hl, hr⟩, ⟨⟨pb', k1, k2⟩, kl, kr⟩, h => by
    simp [Tr.ptr] at h
    subst h
    unfold NodeAt at h1 k1
    rw [h1] at k1
    simp only [Option.some.injEq, Obj.cells.injEq, Array.mk.injEq, List.cons.injEq, Value.pointer.injEq, Addr.mk.injEq] at k1
    obtain ⟨⟨⟨e1, _⟩, e2, e3, _⟩, _⟩ := k1
    subst e1
    rw [pair_det h2 k2, tree_det hl kl e2, tree_det hr kr e3]
theorem infoN : ∃ j, Try.prog.info? 132 = some j ∧ j.size ≠ 0 := by
  have h : (Try.prog.info? 132).map (fun i => i.size) = some 4 := by kernel_rfl
  cases he : Try.prog.info? 132 with
  | none => rw [he] at h; cases h
  | some j =>
    rw [he] at h
    have h1 : j.size = 4 := by injection h
    exact ⟨j, rfl, by omega⟩
theorem node_same (b : Nat) (W : World) : (binOp .eql 48 (.pointer (some ⟨b, 0, none⟩)) (.pointer (some ⟨b, 0, none⟩))).run Try.prog W = .ok (.bool true) W := by
  obtain ⟨j, hj, _⟩ := infoN
  exact run_eql_ptr_same W _ Try.underlying48 hj
theorem node_other [LT Gb] {b pb : Nat} {lv rv : Value} {n : Int} {W : World} {s : Tr} {us : Option Addr} (h : NodeAt W b pb lv rv n) (hs : TreeAt W s) (hu : s.ptr = .pointer us) (hne : us ≠ some ⟨b, 0, none⟩) :
    (binOp .eql 48 (.pointer (some ⟨b, 0, none⟩)) (.pointer us)).run Try.prog W = .ok (.bool false) W := by
  obtain ⟨j, hj, hz⟩ := infoN
  cases s with
  | nil =>
    simp only [Tr.ptr, Value.pointer.injEq] at hu
    subst hu
    have hp := Try.underlying48
    clear h hs hne
    go_simp
  | nd b' p l r =>
    simp only [Tr.ptr, Value.pointer.injEq] at hu
    subst hu
    obtain ⟨⟨pb', h', _⟩, _, _⟩ := hs
    exact run_eql_ptr_other W Try.underlying48 hj hz (fun e => hne (by rw [e])) h h'
/-- those that another tree has not so -/
def unQ [LT Gb] {w0 : World} (o : Tr) (ps : List (PrB w0)) : List (PrB w0) := ps.filter (fun x => !hasT o x.1.2)
theorem unQ_len [LT Gb] {w0 : World} (o : Tr) (ps : List (PrB w0)) : (unQ o ps).length ≤ ps.length := List.length_filter_le _ _
theorem unQ_cong [LT Gb] {w0 : World} {o o' : Tr} {ps : List (PrB w0)} (h : ∀ x ∈ ps, hasT o x.1.2 = hasT o' x.1.2) : unQ o ps = unQ o' ps := List.filter_congr (fun x hx => by rw [h x hx])
theorem unQ_nd [LT Gb] {w0 : World} (o : Tr) (L R : List (PrB w0)) (x : PrB w0) : unQ o (L ++ x :: R) = unQ o L ++ ((if hasT o x.1.2 then [] else [x]) ++ unQ o R) := by
  unfold unQ
  rw [List.filter_append, List.filter_cons]
  cases hasT o x.1.2 <;> simp
set_option maxRecDepth 100000 in
set_option maxHeartbeats 4000000 in
theorem tu_in [LT Gb] (w0 : World) (lp N : Nat) (J Jx : List (PrB w0) → World → Prop) (hA : ∀ s W W', J s W → Below W.heap.size W W' → J s W') (hY : HandsQ w0 lp N J Jx) (t : Tr) :
    ∀ (n : Nat) (ps pre : List (PrB w0)) (o : Tr) (lo hi : Option Pr) (vl vh : Option Addr) (W : World), TB w0 t ps → Rise t.list → TreeAt w0 o → EdgeAt w0 vl lo → EdgeAt w0 vh hi → (∀ q ∈ t.list, ¬ lowOut lo q.1 ∧ ¬ highOut hi q.1) →
      Below w0.heap.size w0 W → J pre W → pre.length + ps.length ≤ N →
      CallsIn Fence.wide n Try.prog 86 #[t.ptr, o.ptr, .pointer vl, .pointer vh, .func (.yield lp) #[] #[]] W (TellEnd w0 J Jx pre (unQ o ps) W) := by
  induction t with
  | nil =>
    intro n ps pre o lo hi vl vh W hT _ ho hlo hhi _ hB hJ _
    have hps : ps = [] := hT
    subst hps
    have HWI := Lib.hid (within_any o lo hi vl vh W (ho.next hB) (hlo.next hB) (hhi.next hB))
    obtain ⟨uo, huo⟩ := o.ptr_pointer
    obtain ⟨us, hus⟩ := (withinT o lo hi).ptr_pointer
    rw [huo, hus] at HWI
    rw [huo]
    have hf : ∀ W1, Below W.heap.size W W1 → TellEnd w0 J Jx pre (unQ o []) W (.returned (.bool true)) W1 := fun W1 h => .inl ⟨rfl, by simpa [unQ] using hA _ _ _ hJ h, h.mono hB.size⟩
    clear hA hY ho hlo hhi hB hJ huo hus hT
    simp only [Tr.ptr]
    refine callsIn_of_wp Try.func86 rfl trivial ?_ rfl
    simp only [Try.ntmps86, List.size_toArray, List.length_cons, List.length_nil, Nat.reduceAdd, Nat.reduceSub, Array.replicate_succ, Array.replicate_zero, List.push_toArray, List.append_toArray, List.nil_append, List.cons_append]
    gi_wp2_with fail
    refine ⟨trivial, wide_deep _, ?_⟩
    refine (callsIn_wide.2 HWI.out).mono ?_
    rintro e W1 ⟨rfl, hb⟩
    have hff := Lib.hid (hf W1 hb)
    clear hf hb HWI
    gi_wp2
    go_ret
    exact hff.out
  | nd b p l r ihl ihr =>
    intro n ps pre o lo hi vl vh W hT hR ho hlo hhi hbd hB hJ hN
    have hT0 := hT
    obtain ⟨x, L, R, rfl, hp, hnd, hL, hRr⟩ := hT
    obtain ⟨h1, h2, h3, h4, _⟩ := rise_nd.1 hR
    have HWI := Lib.hid (within_any o lo hi vl vh W (ho.next hB) (hlo.next hB) (hhi.next hB))
    have hsA : TreeAt w0 (withinT o lo hi) := within_at lo hi ho
    have hhs : ∀ y ∈ L ++ x :: R, hasT (withinT o lo hi) y.1.2 = hasT o y.1.2 := fun y hy => by
      have := hbd _ (mem_keys hT0 hy)
      exact within_has o lo hi _ this.1 this.2
    obtain ⟨uo, huo⟩ := o.ptr_pointer
    rw [huo] at HWI
    rw [huo]
    have HUQ : Hid (unQ o (L ++ x :: R) = unQ (withinT o lo hi) (L ++ x :: R)) := (unQ_cong hhs).symm
    rw [HUQ.out]
    obtain ⟨s, hs⟩ : ∃ s, withinT o lo hi = s := ⟨_, rfl⟩
    rw [hs] at hsA HWI ⊢
    clear hs hhs HUQ ho huo
    obtain ⟨us, hus⟩ := s.ptr_pointer
    rw [hus] at HWI
    have HA := Lib.hid hA
    by_cases ge : us = some ⟨b, 0, none⟩
    · subst ge
      have hst : s = .nd b p l r := tree_det hsA (tb_at hT0) (by rw [hus]; rfl)
      have hz : unQ s (L ++ x :: R) = [] := by
        unfold unQ
        rw [List.filter_eq_nil_iff]
        intro y hy
        rw [hst, has_own hR (mem_keys hT0 hy)]
        simp
      rw [hz]
      have hf : ∀ W1, Below W.heap.size W W1 → TellEnd w0 J Jx pre [] W (.returned (.bool true)) W1 := fun W1 h => .inl ⟨rfl, by simpa using hA _ _ _ hJ h, h.mono hB.size⟩
      clear hA hY hlo hhi hB hJ hus hT0 hst hz ihl ihr hL hRr hR h1 h2 h3 h4 hN hnd hbd hsA hp HA
      show CallsIn _ _ _ _ #[.pointer (some ⟨b, 0, none⟩), _, _, _, _] W _
      refine callsIn_of_wp Try.func86 rfl trivial ?_ rfl
      simp only [Try.ntmps86, List.size_toArray, List.length_cons, List.length_nil, Nat.reduceAdd, Nat.reduceSub, Array.replicate_succ, Array.replicate_zero, List.push_toArray, List.append_toArray, List.nil_append, List.cons_append]
      gi_wp2_with fail
      refine ⟨trivial, wide_deep _, ?_⟩
      refine (callsIn_wide.2 HWI.out).mono ?_
      rintro e W1 ⟨rfl, hb⟩
      have hff := Lib.hid (hf W1 hb)
      have eq1 := node_same b W1
      clear hf hb HWI
      gi_wp2
      go_ret
      exact hff.out
    have hpx : PairAt w0 x.1.1 p := by rw [← hp]; exact x.2.1
    have hen : EdgeAt w0 (some ⟨b, 0, none⟩) (some p) := ⟨b, x.1.1, _, _, _, rfl, hnd, hpx⟩
    obtain ⟨ul, hul⟩ := l.ptr_pointer
    obtain ⟨ur, hur⟩ := r.ptr_pointer
    have HND : Hid (∀ X, Below w0.heap.size w0 X → NodeAt X b x.1.1 (.pointer ul) (.pointer ur) ((Tr.nd b p l r).cnt : Nat)) := fun X hX => by rw [← hul, ← hur]; exact hnd.next hX (Nat.le_refl _)
    have HLN : Hid (pre.length + (L.length + (R.length + 1)) ≤ N) := by rw [List.length_append, List.length_cons] at hN; exact hN
    have HI1 := Lib.hid (fun (m : Nat) (W1 : World) (hB1 : Below w0.heap.size w0 W1) (hJ1 : J pre W1) =>
      ihl m L pre s lo (some p) vl (some ⟨b, 0, none⟩) W1 hL h1 hsA hlo hen (fun q hq => ⟨(hbd q (by simp [Tr.list, hq])).1, fun h => by have h5 : 0 ≤ ordL q.1 p.1 := h; have h6 : ordL q.1 p.1 = -1 := h3 q hq; omega⟩) hB1 hJ1 (by have := HLN.out; omega))
    have HI2 := Lib.hid (fun (m : Nat) (pre2 : List (PrB w0)) (W1 : World) (hB1 : Below w0.heap.size w0 W1) (hJ1 : J pre2 W1) (hn2 : pre2.length + R.length ≤ N) =>
      ihr m R pre2 s (some p) hi (some ⟨b, 0, none⟩) vh W1 hRr h2 hsA hen hhi (fun q hq => ⟨fun h => by have h5 : ordL q.1 p.1 ≤ 0 := h; have h6 : ordL p.1 q.1 = -1 := h4 q hq; rw [qo_mone h6] at h5; omega, (hbd q (by simp [Tr.list, hq])).2⟩) hB1 hJ1 hn2)
    have HEQ := Lib.hid (fun (W1 : World) (hB1 : Below w0.heap.size w0 W1) => node_other (hnd.next hB1 (Nat.le_refl _)) (hsA.next hB1) hus ge)
    have HHS := Lib.hid (fun (W1 : World) (hB1 : Below w0.heap.size w0 W1) => has_any s x.1.1 p W1 (hsA.next hB1) (hpx.next hB1))
    rw [hul, hus] at HI1
    rw [hur, hus] at HI2
    rw [hus] at HHS
    rw [unQ_nd]
    rw [hp]
    obtain ⟨mid, hmid⟩ : ∃ m, (if hasT s p then [] else [x]) = m := ⟨_, rfl⟩
    have HMD := Lib.hid hmid
    rw [hmid]
    clear hmid
    have hlu := unQ_len s L
    have HLU : Hid (pre.length + ((unQ s L).length + (R.length + 1)) ≤ N) := by show _ ≤ _; have := HLN.out; omega
    have HB := Lib.hid hB
    have HJ := Lib.hid hJ
    clear ihl ihr hL hRr hR h1 h2 h3 h4 hJ hN hnd hul hur hlu hB hpx hen hbd hlo hhi hT0 hsA hus hA HLN ge
    show CallsIn _ _ _ _ #[.pointer (some ⟨b, 0, none⟩), _, _, _, _] W _
    refine callsIn_of_wp Try.func86 rfl trivial ?_ rfl
    simp only [Try.ntmps86, List.size_toArray, List.length_cons, List.length_nil, Nat.reduceAdd, Nat.reduceSub, Array.replicate_succ, Array.replicate_zero, List.push_toArray, List.append_toArray, List.nil_append, List.cons_append]
    gi_wp2_with fail
    refine ⟨trivial, wide_deep _, ?_⟩
    refine (callsIn_wide.2 HWI.out).mono ?_
    rintro e W1 ⟨rfl, hb⟩
    have HB1 := Lib.hid (HB.out.trans (hb.mono HB.out.size))
    have HB01 := Lib.hid (hb.mono HB.out.size)
    have HC1 := Lib.hid (HI1.out (n - 1) W1 HB1.out (HA.out _ _ _ HJ.out hb))
    have c1 := (HND.out W1 HB1.out).c1
    have eq1 := HEQ.out W1 HB1.out
    clear hb HWI HJ HEQ
    gi_wp2_with fail
    refine ⟨trivial, wide_deep _, ?_⟩
    refine HC1.out.mono ?_
    rintro e W2 (⟨rfl, hJ2, hb2⟩ | ⟨rfl, q, hq, hx⟩)
    · have HB2 := Lib.hid (HB1.out.trans hb2)
      have HB02 := Lib.hid (HB01.out.trans hb2)
      have HJ2 := Lib.hid hJ2
      have n2 := (HND.out W2 HB2.out).c0
      have HH2 := Lib.hid (HHS.out W2 HB2.out)
      obtain ⟨hb0, hhb⟩ : ∃ hb0, hasT s p = hb0 := ⟨_, rfl⟩
      have HM2 := Lib.hid HMD.out
      rw [hhb] at HH2 HM2
      clear hJ2 hb2 hhb c1
      gi_wp2_with fail
      refine ⟨trivial, wide_deep _, ?_⟩
      refine (callsIn_wide.2 HH2.out).mono ?_
      rintro e W3 ⟨rfl, hb3⟩
      have HB3 := Lib.hid (HB2.out.trans (hb3.mono HB2.out.size))
      have HB03 := Lib.hid (HB02.out.trans (hb3.mono HB2.out.size))
      have HJ3 := Lib.hid (HA.out _ _ _ HJ2.out hb3)
      have n3 := (HND.out W3 HB3.out).c2
      have n3a := (HND.out W3 HB3.out).c0
      clear hb3 n2 HH2
      cases hb0 with
      | true =>
        obtain rfl : [] = mid := HM2.out
        have HI3 := Lib.hid (HI2.out (n - 1) _ W3 HB3.out HJ3.out (by have := HLU.out; rw [List.length_append]; omega))
        clear n3a
        gi_wp2_with fail
        refine ⟨fun _ h => (by cases h), ?_⟩
        gi_wp2_with fail
        refine ⟨trivial, wide_deep _, ?_⟩
        refine HI3.out.mono ?_
        rintro e W5 (⟨rfl, hJ5, hb5⟩ | ⟨rfl, q, hq, hx5⟩)
        · have hf : TellEnd w0 J Jx pre (unQ s L ++ ([] ++ unQ s R)) W (.returned (.bool true)) W5 := .inl ⟨rfl, by simpa using hJ5, HB03.out.trans hb5⟩
          gi_wp2
          go_ret
          exact hf
        · have hf : TellEnd w0 J Jx pre (unQ s L ++ ([] ++ unQ s R)) W (.returned (.bool false)) W5 := .inr ⟨rfl, unQ s L ++ ([] ++ q), by obtain ⟨r', hr'⟩ := hq; exact ⟨r', by simp [← hr']⟩, by simpa using hx5⟩
          gi_wp2
          go_ret
          exact hf
      | false =>
        obtain rfl : [x] = mid := HM2.out
        obtain ⟨fn, tmps, assign, body, hy, hRd⟩ := hY (n - 1) _ x W3 HJ3.out (by have := HLU.out; rw [List.length_append]; omega)
        clear n3
        gi_wp2_with fail
        refine ⟨wide_deep _, ?_⟩
        refine hRd.mono ?_
        rintro e W4 (⟨rfl, hJ4, hb4⟩ | ⟨rfl, hx4⟩)
        · have HB4 := Lib.hid (HB3.out.trans hb4)
          have HB04 := Lib.hid (HB03.out.trans hb4)
          have n4 := (HND.out W4 HB4.out).c2
          have HI4 := Lib.hid (HI2.out (n - 1) _ W4 HB4.out hJ4 (by have := HLU.out; rw [List.length_append, List.length_append, List.length_singleton]; omega))
          clear hJ4 hb4 n3a
          gi_wp2_with fail
          refine ⟨trivial, wide_deep _, ?_⟩
          refine HI4.out.mono ?_
          rintro e W5 (⟨rfl, hJ5, hb5⟩ | ⟨rfl, q, hq, hx5⟩)
          · have hf : TellEnd w0 J Jx pre (unQ s L ++ ([x] ++ unQ s R)) W (.returned (.bool true)) W5 := .inl ⟨rfl, by simpa using hJ5, HB04.out.trans hb5⟩
            gi_wp2
            go_ret
            exact hf
          · have hf : TellEnd w0 J Jx pre (unQ s L ++ ([x] ++ unQ s R)) W (.returned (.bool false)) W5 := .inr ⟨rfl, unQ s L ++ ([x] ++ q), by obtain ⟨r', hr'⟩ := hq; exact ⟨r', by simp [← hr']⟩, by simpa using hx5⟩
            gi_wp2
            go_ret
            exact hf
        · have hf : TellEnd w0 J Jx pre (unQ s L ++ ([x] ++ unQ s R)) W (.returned (.bool false)) W4 := .inr ⟨rfl, unQ s L ++ [x], ⟨unQ s R, by simp⟩, by simpa using hx4⟩
          gi_wp2_with fail
          refine ⟨trivial, ?_⟩
          gi_wp2
          go_ret
          exact hf
    · have hf : TellEnd w0 J Jx pre (unQ s L ++ (mid ++ unQ s R)) W (.returned (.bool false)) W2 := .inr ⟨rfl, q, hq.trans (List.prefix_append _ _), hx⟩
      clear hx hq c1
      gi_wp2_with fail
      refine ⟨trivial, ?_⟩
      gi_wp2_with fail
      refine ⟨fun _ h => (by cases h), ?_⟩
      gi_wp2_with fail
      refine ⟨trivial, ?_⟩
      gi_wp2
      go_ret
      exact hf
/-- the iterator's value -/
theorem un_stops [LT Gb] (n N : Nat) (w0 w : World) (B1 B2 : Nat) (t o : Tr) (ps : List (PrB w0)) (hT : TB w0 t ps) (hR : Rise t.list) (ho : TreeAt w0 o) (hB : Below w0.heap.size w0 w) (hN : ps.length ≤ N)
    (h1 : w.cell? ⟨B1, 0, none⟩ = some t.ptr) (h2 : w.cell? ⟨B2, 0, none⟩ = some o.ptr) (l1 : B1 < w.heap.size) (l2 : B2 < w.heap.size) :
    SeqStopsK Fence.wide n Try.prog 85 #[.pointer (some ⟨B1, 0, none⟩), .pointer (some ⟨B2, 0, none⟩)] (fun x : PrB w0 => #[Value.pointer (some ⟨x.1.1, 0, none⟩)]) (Below w0.heap.size) (fun ys => ys = unQ o ps) (fun q => q <+: unQ o ps) N w := fun lp J Jx W hW hA _ hY h0' => by
  have hH : HandsQ w0 lp N J Jx := fun m pre x W1 hj hl => YieldAt.anyDepth m (hY pre x W1 hj hl)
  have hAb : ∀ s X Y, J s X → Below X.heap.size X Y → J s Y := fun s X Y hs hb => hA s X Y none hs ⟨hb.os, hb.tape, hb.output, hb.size, fun k hk _ => hb.block k hk⟩ (fun r e => by cases e)
  have b1 := (hW.cell (p := ⟨B1, 0, none⟩) l1).trans h1
  have b2 := (hW.cell (p := ⟨B2, 0, none⟩) l2).trans h2
  have HI := Lib.hid (tu_in w0 lp N J Jx hAb hH t (n - 1) ps [] o none none none none W hT hR ho rfl rfl (fun _ _ => ⟨fun h => h, fun h => h⟩) (hB.trans (hW.mono hB.size)) h0' (by simpa using hN))
  obtain ⟨ut, hut⟩ := t.ptr_pointer
  obtain ⟨uo, huo⟩ := o.ptr_pointer
  rw [hut, huo] at HI
  rw [hut] at b1
  rw [huo] at b2
  clear hY hA hW h0' h1 h2 hut huo hH hAb
  refine callsIn_of_wp Try.func85 rfl trivial ?_ rfl
  simp only [Try.ntmps85, List.size_toArray, List.length_cons, List.length_nil, Nat.reduceAdd, Nat.reduceSub, Array.replicate_succ, Array.replicate_zero, List.push_toArray, List.append_toArray, List.nil_append, List.cons_append]
  gi_wp2_with fail
  refine ⟨trivial, wide_deep _, ?_⟩
  refine HI.out.mono ?_
  rintro e W1 (⟨rfl, hJ1, _⟩ | ⟨rfl, q, hq, hx⟩)
  · gi_wp2
    go_end0
    exact ⟨⟨_, rfl⟩, .inl ⟨_, rfl, by simpa using hJ1⟩⟩
  · gi_wp2
    go_end0
    exact ⟨⟨_, rfl⟩, .inr ⟨q, hq, by simpa using hx⟩⟩
set_option maxHeartbeats 400000 in
theorem unlikeOf_any (u v : Option Addr) (w : World) :
    Calls Try.prog 46 #[.pointer u, .pointer v] w fun e w' => e = .returned (.func (.func 85) #[] #[.pointer (some ⟨w.heap.size, 0, none⟩), .pointer (some ⟨w.heap.size + 1, 0, none⟩)]) ∧ w' = (w.alloc (.cells #[.pointer u] 48)).alloc (.cells #[.pointer v] 48) := by
  go_enter Try.func46, Try.ntmps46
  go_wp2
  go_ret
  exact ⟨rfl, rfl⟩
end Go.Proofs.Ytohpilamoglhcaa
