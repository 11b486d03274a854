/-
  CONTRACT: Range.
-/
import Derived.Test.YtohpilamoglhcaaQRow
import Derived.BigQuiet
namespace Go.Proofs.Ytohpilamoglhcaa
open Go.RowKit Go.Shelf
attribute [local go_sem] Oper.semAt_some

theorem yield_un : Go.yielded.match_1 (fun _ => Option Bool) (some undef) (fun b => some b) (fun _ => none) = none := rfl
attribute [local go_sem] yield_un
theorem infoP : (Try.prog.info? 93).map (fun i => (i.zero, i.size, i.bytes)) = some (some (.agg #[.slice none 0 0, .slice none 0 0]), 2, 48) := by kernel_rfl
/-- what stands while pairs come -/
structure RMid [LT Gb] (w : World) (bt bm bl : Nat) (A : Option Addr) (c : Nat) (to : By) (most : Int) (pre : List (PrB w)) (W : World) : Prop where
  row : ∃ v qs, Boxed W bl 68 v ∧ OwnQ W w.heap.size v qs ∧ qs.map (·.1) = pre.map (·.1.2)
  bt : Boxed W bt 57 (.slice A to.length c)
  bm : Boxed W bm 3 (.int .i64 most)
  low : Below w.heap.size w W
  ps : rgL to most (pre.map (·.1.2)) = pre.map (·.1.2)
theorem RMid.next [LT Gb] {w : World} {bt bm bl : Nat} {A : Option Addr} {c : Nat} {to : By} {most : Int} {pre : List (PrB w)} {W W' : World} (h : RMid w bt bm bl A c to most pre W) (hb : Below W.heap.size W W') : RMid w bt bm bl A c to most pre W' := by
  obtain ⟨v, qs, g1, g2, g3⟩ := h.row
  exact ⟨⟨v, qs, (hb.block _ g1.lt).trans g1, g2.next hb, g3⟩, (hb.block _ h.bt.lt).trans h.bt, (hb.block _ h.bm.lt).trans h.bm, h.low.trans (hb.mono h.low.size), h.ps⟩
/-- what stands behind a break -/
structure RStop [LT Gb] (w : World) (bl : Nat) (to : By) (most : Int) (cd : Code) (pre : List (PrB w)) (W : World) : Prop where
  cd : cd = .exit 0
  row : ∃ v qs p x, Boxed W bl 68 v ∧ OwnQ W w.heap.size v qs ∧ pre = p ++ [x] ∧ qs.map (·.1) = p.map (·.1.2) ∧ rgL to most (p.map (·.1.2)) = p.map (·.1.2) ∧ (most - p.length ≤ 0 ∨ (to ≠ [] ∧ 0 ≤ ordL x.1.2.1 to))
  low : Below w.heap.size w W
theorem keepsFrom_below {W W' : World} {B : Nat} (h : Below W.heap.size W W') : KeepsFrom B W W' :=
  ⟨h.size, fun k _ _ hk _ => (h.block k (Array.getElem?_eq_some_iff.1 hk).1).trans hk⟩
/-- an append to a row of a call's own, in a region that draws its order -/
theorem wpIn_appendP {F : Fence} {n : Nat} {P : Program} (w : World) {o : Oper} {a : Act} {K : Act → World → Prop} {Q : Exit → Act → World → Prop} (s x : Operand) (t : TypeId)
    (hop : o.op = Op.call { callee := Callee.builtin Builtin.append, args := #[s, x], argTypes := #[t, t] })
    (base : Nat) (e : TypeId) (i : TypeInfo) (z : Value) (size bytes : Nat) (h1 : P.underlying t = some (.slice e)) (h2 : P.info? e = some i) (h3 : i.zero = some z) (h4 : i.size = size) (h5 : i.bytes = bytes) (h6 : z.cells.size = size) (h7 : 0 < size)
    (v : Value) (k : Nat) (xs : List Value) (hs : a.eval s = v) (hown : w.ownsRow base e size v k xs) (ad : Addr) (m c : Nat) (news : List Value) (hx : a.eval x = .slice (some ad) m c) (hn : news.length = m * size)
    (hc : ∀ j u, news[j]? = some u → w.cell? (ad.add j) = some u) (h1c : ∀ u ∈ news, u.oneCell' = true) (b1 : k + m ≤ maxLen) (b2 : (k + m) * bytes ≤ 140737488355328) (b3 : base ≤ w.heap.size)
    (hK : ∀ v' w', w'.ownsRow base e size v' (k + m) (xs ++ news) → w.grownBy w' v.ownBlock → (v' = .slice none 0 0 ↔ v = .slice none 0 0 ∧ m = 0) → K (a.put o.dst v') w') :
    o.wpIn F n P a w K Q := by
  obtain ⟨v', w', hrun, r1, r2, r3⟩ := run_append_own (P := P) w base t o.type e i z size bytes h1 h2 h3 h4 h5 h6 h7 v k xs hown ad m c news hn hc h1c b1 b2 b3
  unfold Oper.wpIn
  constructor
  · simp [Oper.about, hop, resolve, Target.leads, Sem.run_pure]
  · rw [Oper.semAt_plain F _ _ (by rw [hop]; intro c hc'; cases hc')]
    simp [execOp, hop, resolve, invoke, builtin, hs, hx, hrun, Result.andThen]
    exact hK v' w' r1 r2 r3
/-- what a round that takes a pair leaves -/
theorem row_step {w W W4 w6 : World} {bl n : Nat} {v v' : Value} {qs : List Q3} {p : Pr} {u1 u2 : Value} (hv : Boxed W bl 68 v) (ho : OwnQ W w.heap.size v qs) (hl : Below w.heap.size w W) (hbl : w.heap.size ≤ bl) (hb4 : Below W.heap.size W W4) (hpv : PrV W4 W.heap.size (.agg #[u1, u2]) p)
    (hown : w6.ownsRow w.heap.size 93 2 v' (qs.length + 1) (qs.flatMap cellsQ ++ [u1, u2])) (hg : (W4.alloc (.cells #[u1, u2] 93)).grownBy w6 v.ownBlock) (hat : ∃ g c, v' = .slice (some ⟨g, 0, none⟩) (qs.length + 1) c) :
    Boxed w6 bl 68 v ∧ KeepsFrom n W (w6.setCell ⟨bl, 0, none⟩ v') ∧ Below w.heap.size W (w6.setCell ⟨bl, 0, none⟩ v') ∧ Boxed (w6.setCell ⟨bl, 0, none⟩ v') bl 68 v' ∧ OwnQ (w6.setCell ⟨bl, 0, none⟩ v') w.heap.size v' (qs ++ [(p, u1, u2)]) ∧
      ∀ b t u, b ≠ bl → t ≠ 93 → Boxed W b t u → Boxed (w6.setCell ⟨bl, 0, none⟩ v') b t u := by
  obtain ⟨g, c, rfl⟩ := hat
  have hv4 : Boxed W4 bl 68 v := (hb4.block bl hv.lt).trans hv
  have ho4 := ho.next hb4
  have hl4 : w.heap.size ≤ W4.heap.size := Nat.le_trans hl.size hb4.size
  obtain ⟨a1, a2, a3, a4, a5⟩ := hv4.appended (by decide) ho4.row hl4 hbl hown hg
  have hb5 : Below W4.heap.size W4 (W4.alloc (.cells #[u1, u2] 93)) := (Below.refl _ _).alloc (Nat.le_refl _) _
  have hs := OwnQ.snoc ho hl.size hb4 hpv hb5 hown hg
  refine ⟨a1, (keepsFrom_below hb4).trans (a4.from _), (hb4.mono hl.size).trans a5, a2, hs.set a1 (by decide) (by decide), fun b t u hb ht hbx => ?_⟩
  have h4 : Boxed W4 b t u := (hb4.block b hbx.lt).trans hbx
  have h6 : Boxed w6 b t u := (h4.alloc _).kept hg (h4.not_row ht ho4.row)
  exact h6.other (by omega) _
theorem rmid_step [LT Gb] {w : World} {bt bm bl n : Nat} {A : Option Addr} {c : Nat} {to : By} {most : Int} {pre : List (PrB w)} {x : PrB w} {W W4 w6 : World} {v v' : Value} {qs : List Q3} {u1 u2 : Value} (hM : RMid w bt bm bl A c to most pre W) (hv : Boxed W bl 68 v) (ho : OwnQ W w.heap.size v qs) (hl : Below w.heap.size w W) (hbl : w.heap.size ≤ bl) (hbt : bt ≠ bl) (hbm : bm ≠ bl)
    (hb4 : Below W.heap.size W W4) (hpv : PrV W4 W.heap.size (.agg #[u1, u2]) x.1.2) (hown : w6.ownsRow w.heap.size 93 2 v' (qs.length + 1) (qs.flatMap cellsQ ++ [u1, u2])) (hg : (W4.alloc (.cells #[u1, u2] 93)).grownBy w6 v.ownBlock) (hat : ∃ g c, v' = .slice (some ⟨g, 0, none⟩) (qs.length + 1) c)
    (hq : qs.map (·.1) = pre.map (·.1.2)) (hps : ¬ (most - pre.length ≤ 0 ∨ (to ≠ [] ∧ 0 ≤ ordL x.1.2.1 to))) :
    KeepsFrom n W (w6.setCell ⟨bl, 0, none⟩ v') ∧ Below w.heap.size W (w6.setCell ⟨bl, 0, none⟩ v') ∧ RMid w bt bm bl A c to most (pre ++ [x]) (w6.setCell ⟨bl, 0, none⟩ v') := by
  obtain ⟨_, h2, h3, h4, h5, h6⟩ := row_step (n := n) hv ho hl hbl hb4 hpv hown hg hat
  refine ⟨h2, h3, ⟨v', qs ++ [(x.1.2, u1, u2)], h4, h5, by rw [List.map_append, hq, List.map_append]; rfl⟩, h6 _ _ _ hbt (by decide) hM.bt, h6 _ _ _ hbm (by decide) hM.bm, hl.trans h3, ?_⟩
  rw [List.map_append]
  exact rgL_go hM.ps (by rw [List.length_map]; exact hps)
theorem rMid_own [LT Gb] (w : World) (M bt bm bl : Nat) (A : Option Addr) (c : Nat) (to : By) (most : Int) (h0 : w.heap.size ≤ M) (h1 : bt < M) (h2 : bm < M) (h3 : bl < M) : OwnFrom M (RMid w bt bm bl A c to most) := fun pre X Y row g hg hr => by
  have hne : ∀ b, b < M → some b ≠ row := fun b hb e => by have := (hr b e.symm).1; omega
  obtain ⟨v, qs, g1, g2, g3⟩ := g.row
  exact ⟨⟨v, qs, g1.kept hg (hne _ h3), g2.kept hg (fun r e => (hr r e).2), g3⟩, g.bt.kept hg (hne _ h1), g.bm.kept hg (hne _ h2), g.low.grown hg g.low.size (fun j ej => by have := (hr j ej).1; omega), g.ps⟩
theorem rStop_own [LT Gb] (w : World) (M bl : Nat) (to : By) (most : Int) (cd : Code) (h0 : w.heap.size ≤ M) (h3 : bl < M) : OwnFrom M (RStop w bl to most cd) := fun pre X Y row g hg hr => by
  have hne : ∀ b, b < M → some b ≠ row := fun b hb e => by have := (hr b e.symm).1; omega
  obtain ⟨v, qs, p, x, g1, g2, g3⟩ := g.row
  exact ⟨g.cd, ⟨v, qs, p, x, g1.kept hg (hne _ h3), g2.kept hg (fun r e => (hr r e).2), g3⟩, g.low.grown hg g.low.size (fun j ej => by have := (hr j ej).1; omega)⟩
set_option maxRecDepth 100000 in
set_option maxHeartbeats 4000000 in
theorem range_in [LT Gb] (m : Nat) (hm3 : Hid (5 ≤ m)) {v : Value} {L : List Pr} (A A' : Option Addr) (c c' : Nat) (k to : By) (most : Int) (w : World) (h : TreeV w v L) (hk : SlB w w.heap.size A k) (ht : SlB w w.heap.size A' to) :
    CallsIn Fence.wide m Try.prog 23 #[v, .slice A k.length c, .slice A' to.length c', .int .i64 most] w fun e w' => ∃ v' qs, e = .returned v' ∧ OwnQ w' w.heap.size v' qs ∧ qs.map (·.1) = rgL to most (fromL k L) ∧ Below w.heap.size w w' := by
  obtain ⟨i0, hi, hz0, hz1, hz2⟩ := info_parts infoP
  obtain ⟨⟨u, t, rfl, h2, h3, rfl⟩, hR, hs, hf⟩ := h
  obtain ⟨ps, hps⟩ := tb_of h3 hs
  have HT := Lib.hid (fun X (hX : Below w.heap.size w X) => top_any (u := u) (t := t) X (by
    rcases h2 with h2 | ⟨b, e, h2⟩
    · exact .inl h2
    · exact .inr ⟨b, e, (hX.block b (Array.getElem?_eq_some_iff.1 h2).1).trans h2⟩))
  obtain ⟨ut, hut⟩ := t.ptr_pointer
  rw [hut] at HT
  refine callsIn_of_wp_marks Try.func23 rfl trivial ?_ rfl
  simp only [Try.ntmps23, List.size_toArray, List.length_cons, List.length_nil, Nat.reduceAdd, Nat.reduceSub, Array.replicate_succ, Array.replicate_zero, List.push_toArray, List.append_toArray, List.nil_append, List.cons_append]
  gi_wp2_with fail
  obtain ⟨w3, hw3⟩ : ∃ X, ((w.alloc (.cells #[.slice A' to.length c'] 57)).alloc (.cells #[.int .i64 most] 3)).alloc (.cells #[.slice none 0 0] 68) = X := ⟨_, rfl⟩
  have hz3 : w3.heap.size = w.heap.size + 3 := by rw [← hw3]; simp
  have hb3 : Below w.heap.size w w3 := by rw [← hw3]; exact (((Below.refl _ _).alloc (Nat.le_refl _) _).alloc (by simp) _).alloc (by simp; omega) _
  have B1 : Boxed w3 w.heap.size 57 (.slice A' to.length c') := by rw [← hw3]; exact ((Boxed.new w _ _).alloc _).alloc _
  have B2 : Boxed w3 (w.heap.size + 1) 3 (.int .i64 most) := by
    rw [← hw3]
    have := Boxed.new (w.alloc (.cells #[.slice A' to.length c'] 57)) 3 (.int .i64 most)
    rw [World.size_alloc] at this
    exact this.alloc _
  have B3 : Boxed w3 (w.heap.size + 1 + 1) 68 (.slice none 0 0) := by
    rw [← hw3]
    have := Boxed.new ((w.alloc (.cells #[.slice A' to.length c'] 57)).alloc (.cells #[.int .i64 most] 3)) 68 (.slice none 0 0)
    rw [World.size_alloc, World.size_alloc] at this
    exact this
  try rw [hw3]
  have HZ3 := Lib.hid hz3
  clear hw3 hz3
  refine ⟨trivial, wide_deep _, ?_⟩
  refine (callsIn_wide.2 (HT.out _ hb3)).mono ?_
  rintro e w' ⟨rfl, rfl⟩
  gi_wp2_with fail
  refine ⟨trivial, wide_deep _, ?_⟩
  refine (callsIn_wide.2 (toldOf_any ut A c k.length w3)).mono ?_
  rintro e w4 ⟨rfl, hw4⟩
  have hz4 : w4.heap.size = w3.heap.size + 2 := by rw [hw4]; simp
  have hb34 : Below w3.heap.size w3 w4 := by rw [hw4]; exact ((Below.refl _ _).alloc (Nat.le_refl _) _).alloc (by simp) _
  have hbw4 : Below w.heap.size w w4 := hb3.trans (hb34.mono hb3.size)
  have HZ4 := Lib.hid hz4
  clear hz4
  have hbx1 : w4.cell? ⟨w3.heap.size, 0, none⟩ = some t.ptr := by rw [hut, hw4]; exact ((Boxed.new w3 48 (.pointer ut)).alloc _).cell
  have hbx2 : w4.cell? ⟨w3.heap.size + 1, 0, none⟩ = some (.slice A k.length c) := by
    rw [hw4]
    have := Boxed.new (w3.alloc (.cells #[.pointer ut] 48)) 57 (.slice A k.length c)
    rw [World.size_alloc] at this
    exact this.cell
  have hmid : RMid w w.heap.size (w.heap.size + 1) (w.heap.size + 1 + 1) A' c' to most [] w4 :=
    ⟨⟨_, [], (hb34.block _ B3.lt).trans B3, ownQ_nil _ _, rfl⟩, (hb34.block _ B1.lt).trans B1, (hb34.block _ B2.lt).trans B2, hbw4, rfl⟩
  clear hw4 hb34 B1 B2 B3
  gi_wp2_with fail
  have hro : Fence.wide.round = none := rfl
  have hz3 := HZ3.out
  have hz4 := HZ4.out
  refine wpIn_rangeFunc_ownH hro (by have := hm3.out; omega) (gf := 87) (lb := #[.pointer (some ⟨w3.heap.size, 0, none⟩), .pointer (some ⟨w3.heap.size + 1, 0, none⟩)]) rfl trivial (enters_of Try.func87 (by kernel_rfl) rfl)
    (told_stops (m - 1) ps.length w w4 w3.heap.size (w3.heap.size + 1) t ps A c k hps hR hk hbw4 (Nat.le_refl _) hbx1 hbx2 (by omega) (by omega))
    (fun h k => h.trans k) (fun W l o o' hl h h1 h2 => belowK_b (w := w4) (n₀ := w.heap.size) (by omega) W l o o' hl h h1 h2) (Below.refl _ _) (fun _ => rfl)
    (RMid w w.heap.size (w.heap.size + 1) (w.heap.size + 1 + 1) A' c' to most) (RStop w (w.heap.size + 1 + 1) to most) (rMid_own w _ _ _ _ _ _ _ _ (by omega) (by omega) (by omega) (by omega)) (fun cd => rStop_own w _ _ _ _ _ (by omega) (by omega))
    hmid
    (fun x a' _ => a' = { tmps := #[.pointer u, .slice A k.length c, .slice A' to.length c', .int .i64 most, undef, undef, .pointer (some ⟨w.heap.size, 0, none⟩), .pointer (some ⟨w.heap.size + 1, 0, none⟩), .slice none 0 0, .pointer (some ⟨w.heap.size + 1 + 1, 0, none⟩), .pointer (some ⟨x.1.1, 0, none⟩), .pointer u, .pointer ut, .slice A k.length c, (.func (.func 87) #[] #[.pointer (some ⟨w3.heap.size, 0, none⟩), .pointer (some ⟨w3.heap.size + 1, 0, none⟩)]), .pointer (some ⟨x.1.1, 0, none⟩), undef, undef, undef, undef, undef, undef, undef, undef, undef, undef, undef, undef, undef, undef, undef, undef, undef, undef, undef, undef, undef, undef, undef, undef, undef, undef], defers := [] })
    (fun x a' _ X Y row e _ _ => e) ?assign ?body ?done ?stop
  case assign =>
    clear hz3 hz4
    rintro lp pre x W K hM hK
    gi_wp2
    exact hK _ _ ((KeepsOthers.refl W).from _) (Below.refl _ _) hM rfl
  case body =>
    clear hz3 hz4
    rintro lp pre x a' W hwl hrec hM rfl hlt
    dsimp only
    obtain ⟨v, qs, hv, ho, hq⟩ := hM.row
    obtain ⟨Av, cv, rfl⟩ := ho.form
    obtain ⟨A5, c5, A6, c6, hpb, hp1, hp2⟩ := x.2.1
    replace hp1 := hp1.1
    replace hp2 := hp2.1
    have hbl := (Array.getElem?_eq_some_iff.1 hpb).1
    have HLW := Lib.hid hM.low
    have HM := Lib.hid hM
    have HV := Lib.hid hv
    have HO := Lib.hid ho
    have HQ := Lib.hid hq
    have hql : qs.length = pre.length := by have := congrArg List.length hq; simpa using this
    have HQL := Lib.hid hql
    have b0 : W.drew.cell? ⟨w.heap.size + 1 + 1, 0, none⟩ = some (.slice Av qs.length cv) := hv.cell
    have b1 : W.drew.cell? ⟨w.heap.size, 0, none⟩ = some (.slice A' to.length c') := hM.bt.cell
    have b2 : W.drew.cell? ⟨w.heap.size + 1, 0, none⟩ = some (.int .i64 most) := hM.bm.cell
    have HP0 : Hid (∀ X, Below w.heap.size w X → X.cell? ⟨x.1.1, 0, none⟩ = some (.slice A5 x.1.2.1.length c5) ∧ X.cell? ⟨x.1.1, 1, none⟩ = some (.slice A6 x.1.2.2.length c6)) := fun X hX => by
      rw [hX.cell (p := ⟨x.1.1, 0, none⟩) hbl, hX.cell (p := ⟨x.1.1, 1, none⟩) hbl]
      simp [World.cell?, hpb]
    have p0 : W.drew.cell? ⟨x.1.1, 0, none⟩ = some (.slice A5 x.1.2.1.length c5) := (HP0.out W.drew hM.low.drew).1
    have HPL : Hid (pre.length ≤ 100000) := by show _ ≤ _; have h9 := congrArg List.length (tb_list hps); rw [List.length_map] at h9; omega
    have HOW := Lib.hid (fun X (hX : Below w.heap.size w X) => own_any A5 A6 c5 c6 x.1.2 X (slB_up hp1 hX) (slB_up hp2 hX) x.2.2.1 x.2.2.2)
    have HCM := Lib.hid (fun X (hX : Below w.heap.size w X) => cmpB_any A5 A' c5 c' x.1.2.1 to X (hp1.next hX (Nat.le_refl _)) (ht.next hX (Nat.le_refl _)))
    have hfo : Try.prog.follows .mixedOrders = true := by kernel_rfl
    have hfn : Fence.wide.fn 48 := trivial
    have hfo2 : Fence.wide.fn 33 := trivial
    have hmx : 200000 ≤ maxLen := by decide
    clear hv ho hq hM hpb hbl hql hrec
    by_cases g1 : most ≤ (qs.length : Int)
    · have g1' : decide (most ≤ (qs.length : Int)) = true := decide_eq_true g1
      have HR : Hid (RStop w (w.heap.size + 1 + 1) to most (.exit 0) (pre ++ [x]) W.drew) := ⟨rfl, ⟨_, qs, pre, x, HV.out, HO.out.next (Below.refl W.heap.size W).drew, rfl, HQ.out, HM.out.ps, .inl (by have := HQL.out; omega)⟩, HLW.out.drew⟩
      clear HCM HP0 p0
      gi_wp2
      refine wpIn_mono (Q := fun e a' w' => e = .normal ∧ a' = { tmps := #[.pointer u, .slice A k.length c, (.slice A' to.length c'), .int .i64 most, undef, undef, .pointer (some ⟨w.heap.size, 0, none⟩), .pointer (some ⟨w.heap.size + 1, 0, none⟩), .slice none 0 0, .pointer (some ⟨w.heap.size + 1 + 1, 0, none⟩), .pointer (some ⟨x.1.1, 0, none⟩), .pointer u, .pointer ut, .slice A k.length c, (.func (.func 87) #[] #[.pointer (some ⟨w3.heap.size, 0, none⟩), .pointer (some ⟨w3.heap.size + 1, 0, none⟩)]), .pointer (some ⟨x.1.1, 0, none⟩), .slice Av qs.length cv, .int .i64 qs.length, .int .i64 most, .bool true, .bool true, undef, undef, undef, undef, undef, undef, undef, undef, undef, undef, undef, undef, .bool true, undef, undef, undef, undef, undef, undef, undef, undef], defers := [] } ∧ w' = W.drew) ?_ ?_
      · gi_region_with_o (fail)
        all_goals exact ⟨rfl, rfl, rfl⟩
      rintro e a' w' ⟨rfl, rfl, rfl⟩
      gi_wp2
      exact ⟨keepsFrom_below ((Below.refl W.heap.size W).drew), HR.out⟩
    · have g1' : decide (most ≤ (qs.length : Int)) = false := decide_eq_false g1
      by_cases g2 : to = []
      · have z2 : ¬ 0 < to.length := by rw [g2]; simp
        have z1 : decide (0 < to.length) = false := decide_eq_false z2
        have z3 : ¬ (0 : Int) < (to.length : Int) := by omega
        have HPS : Hid (¬ (most - pre.length ≤ 0 ∨ (to ≠ [] ∧ 0 ≤ ordL x.1.2.1 to))) := by
          show ¬ _
          have := HQL.out
          rintro (h | h)
          · omega
          · exact h.1 g2
        clear p0 HCM g2
        gi_wp2
        refine wpIn_mono (Q := fun e a' w' => e = .normal ∧ a' = { tmps := #[.pointer u, .slice A k.length c, (.slice A' to.length c'), .int .i64 most, undef, undef, .pointer (some ⟨w.heap.size, 0, none⟩), .pointer (some ⟨w.heap.size + 1, 0, none⟩), .slice none 0 0, .pointer (some ⟨w.heap.size + 1 + 1, 0, none⟩), .pointer (some ⟨x.1.1, 0, none⟩), .pointer u, .pointer ut, .slice A k.length c, (.func (.func 87) #[] #[.pointer (some ⟨w3.heap.size, 0, none⟩), .pointer (some ⟨w3.heap.size + 1, 0, none⟩)]), .pointer (some ⟨x.1.1, 0, none⟩), .slice Av qs.length cv, .int .i64 qs.length, .int .i64 most, .bool false, .bool false, (.slice A' to.length c'), .int .i64 to.length, .bool false, .bool false, undef, undef, undef, undef, undef, undef, undef, .bool false, .bool false, undef, undef, undef, undef, undef, undef, undef, undef], defers := [] } ∧ w' = W.drew) ?_ ?_
        · gi_region_with_o (fail)
          all_goals exact ⟨rfl, rfl, rfl⟩
        rintro e a' w' ⟨rfl, rfl, rfl⟩
        obtain ⟨W1, hW1⟩ : ∃ X, W.drew = X := ⟨_, rfl⟩
        rw [hW1]
        gi_wp2
        refine wpIn_region_any (by assumption) ?_
        obtain ⟨Wd, hWd⟩ : ∃ X, W1.drew = X := ⟨_, rfl⟩
        have hbd : Below W.heap.size W Wd := by rw [← hWd, ← hW1]; exact (Below.refl W.heap.size W).drew.drew
        have HOWX := Lib.hid (HOW.out Wd (HLW.out.trans (hbd.mono HLW.out.size)))
        have hM1 := (HM.out).next hbd
        have HM1 := Lib.hid hM1
        have HLD := Lib.hid hM1.low
        have hv1 : Boxed Wd (w.heap.size + 1 + 1) 68 (.slice Av qs.length cv) := (hbd.block _ HV.out.lt).trans HV.out
        have HO0 := HO
        have HV0 := HV
        clear HO HV
        have HO := Lib.hid (HO0.out.next hbd)
        have HV := Lib.hid hv1
        have HBL := Lib.hid hv1.lt
        have HK0 := Lib.hid (keepsFrom_below (B := w4.heap.size) hbd)
        have HK1 := Lib.hid (hbd.mono HLW.out.size)
        have b0' := hv1.cell
        have p0' := (HP0.out Wd hM1.low).1
        have p1' := (HP0.out Wd hM1.low).2
        clear b0 b1 b2
        try clear p0
        have b0 := b0'
        have p0 := p0'
        have p1 := p1'
        clear b0' p0' p1'
        have HOW := HOWX
        try (change wpAnyIn _ _ _ _ _ _ _ _ _ W1.drew)
        rw [hWd]
        clear hbd hM1 hv1 hW1 hWd HOWX HM HO0 HV0
        refine wpAnyIn_ready (rs := [0, 1]) (by kernel_rfl) (by simp) (AllReadyIn.cons rfl (fun K hK => ?_) (AllReadyIn.cons rfl (fun K hK => ?_) AllReadyIn.nil))
        ·
          go_simp
          refine hK _ _ ?_
          clear hK K
          refine wpAnyIn_ready (rs := [1]) (by kernel_rfl) (by simp) (AllReadyIn.cons rfl (fun K hK => ?_) AllReadyIn.nil)
          go_simp
          refine hK _ _ ?_
          clear hK K
          refine wpAnyIn_ready (rs := [2]) (by kernel_rfl) (by simp) (AllReadyIn.cons rfl (fun K hK => ?_) AllReadyIn.nil)
          go_simp
          refine hK _ _ ?_
          clear hK K
          refine wpAnyIn_ready (rs := [3]) (by kernel_rfl) (by simp) (AllReadyIn.cons rfl (fun K hK => ?_) AllReadyIn.nil)
          go_simp
          refine hK _ _ ?_
          clear hK K
          refine wpAnyIn_ready (rs := [4]) (by kernel_rfl) (by simp) (AllReadyIn.cons rfl (fun K hK => ?_) AllReadyIn.nil)
          go_simp
          refine ⟨wide_deep _, (CallsIn.inRound lp (callsIn_wide.2 HOW.out)).mono ?_⟩
          rintro e W4 ⟨v4, he, hpv, hb4⟩
          obtain ⟨A7, c7, A8, c8, M7, e7, _⟩ := id hpv
          rw [e7] at he hpv
          subst he
          have HPV := Lib.hid hpv
          have HB4 := Lib.hid hb4
          have b4 := (hb4.cell (p := ⟨w.heap.size + 1 + 1, 0, none⟩) HBL.out).trans b0
          clear hpv hb4 e7
          refine hK _ _ ?_
          clear hK K
          refine wpAnyIn_ready (rs := [5]) (by kernel_rfl) (by simp) (AllReadyIn.cons rfl (fun K hK => ?_) AllReadyIn.nil)
          have b5 : (W4.alloc (.cells #[.slice A7 x.1.2.1.length c7, .slice A8 x.1.2.2.length c8] 93)).cell? ⟨w.heap.size + 1 + 1, 0, none⟩ = some (.slice Av qs.length cv) := (((Below.refl W4.heap.size W4).alloc (Nat.le_refl _) _).cell (p := ⟨w.heap.size + 1 + 1, 0, none⟩) (Nat.lt_of_lt_of_le HBL.out HB4.out.size)).trans b4
          go_simp
          refine hK _ _ ?_
          clear hK K
          refine wpAnyIn_ready (rs := [6]) (by kernel_rfl) (by simp) (AllReadyIn.cons rfl (fun K hK => ?_) AllReadyIn.nil)
          rw [if_pos (by rfl)]
          refine wpIn_appendP _ _ _ 68 rfl w.heap.size 93 i0 (.agg #[.slice none 0 0, .slice none 0 0]) 2 48 Try.underlying68 hi hz0 hz1 hz2 rfl (by decide) (.slice Av qs.length cv) qs.length _ rfl (World.ownsRow.alloc (HO.out.next HB4.out).row (.cells #[.slice A7 x.1.2.1.length c7, .slice A8 x.1.2.2.length c8] 93)) ⟨W4.heap.size, 0, none⟩ 1 1 [.slice A7 x.1.2.1.length c7, .slice A8 x.1.2.2.length c8] rfl rfl (fun j u h => cell_lit W4 #[.slice A7 x.1.2.1.length c7, .slice A8 x.1.2.2.length c8] 93 j u h) (by simp [Value.oneCell']) (by have := HQL.out; have := HPL.out; omega) (by have := HQL.out; have := HPL.out; omega) (by have := HLD.out.size; have := HB4.out.size; simp; omega) ?_
          intro v6 w6 hown hgrow _
          obtain ⟨g6, cap6, rfl⟩ := ownsRow_succ hown
          have HST := Lib.hid (rmid_step (n := w4.heap.size) HM1.out HV.out HO.out HLD.out (by omega) (by omega) (by omega) HB4.out HPV.out hown hgrow ⟨g6, cap6, rfl⟩ HQ.out HPS.out)
          have h6 := (row_step (n := 0) HV.out HO.out HLD.out (by omega) HB4.out HPV.out hown hgrow ⟨g6, cap6, rfl⟩).1
          have y0 := h6.cell
          have y1 := h6.frozen
          clear hown hgrow h6
          refine hK _ _ ?_
          clear hK K
          refine wpAnyIn_ready (rs := [7]) (by kernel_rfl) (by simp) (AllReadyIn.cons rfl (fun K hK => ?_) AllReadyIn.nil)
          go_simp
          refine hK _ _ ?_
          clear hK K
          refine wpAnyIn_done (by kernel_rfl) ?_ _
          gi_wp2
          exact ⟨HK0.out.trans HST.out.1, HK1.out.trans HST.out.2.1, HST.out.2.2⟩
        ·
          go_simp
          refine hK _ _ ?_
          clear hK K
          refine wpAnyIn_ready (rs := [0, 2]) (by kernel_rfl) (by simp) (AllReadyIn.cons rfl (fun K hK => ?_) (AllReadyIn.cons rfl (fun K hK => ?_) AllReadyIn.nil))
          ·
            go_simp
            refine hK _ _ ?_
            clear hK K
            refine wpAnyIn_ready (rs := [2]) (by kernel_rfl) (by simp) (AllReadyIn.cons rfl (fun K hK => ?_) AllReadyIn.nil)
            go_simp
            refine hK _ _ ?_
            clear hK K
            refine wpAnyIn_ready (rs := [3]) (by kernel_rfl) (by simp) (AllReadyIn.cons rfl (fun K hK => ?_) AllReadyIn.nil)
            go_simp
            refine hK _ _ ?_
            clear hK K
            refine wpAnyIn_ready (rs := [4]) (by kernel_rfl) (by simp) (AllReadyIn.cons rfl (fun K hK => ?_) AllReadyIn.nil)
            go_simp
            refine ⟨wide_deep _, (CallsIn.inRound lp (callsIn_wide.2 HOW.out)).mono ?_⟩
            rintro e W4 ⟨v4, he, hpv, hb4⟩
            obtain ⟨A7, c7, A8, c8, M7, e7, _⟩ := id hpv
            rw [e7] at he hpv
            subst he
            have HPV := Lib.hid hpv
            have HB4 := Lib.hid hb4
            have b4 := (hb4.cell (p := ⟨w.heap.size + 1 + 1, 0, none⟩) HBL.out).trans b0
            clear hpv hb4 e7
            refine hK _ _ ?_
            clear hK K
            refine wpAnyIn_ready (rs := [5]) (by kernel_rfl) (by simp) (AllReadyIn.cons rfl (fun K hK => ?_) AllReadyIn.nil)
            have b5 : (W4.alloc (.cells #[.slice A7 x.1.2.1.length c7, .slice A8 x.1.2.2.length c8] 93)).cell? ⟨w.heap.size + 1 + 1, 0, none⟩ = some (.slice Av qs.length cv) := (((Below.refl W4.heap.size W4).alloc (Nat.le_refl _) _).cell (p := ⟨w.heap.size + 1 + 1, 0, none⟩) (Nat.lt_of_lt_of_le HBL.out HB4.out.size)).trans b4
            go_simp
            refine hK _ _ ?_
            clear hK K
            refine wpAnyIn_ready (rs := [6]) (by kernel_rfl) (by simp) (AllReadyIn.cons rfl (fun K hK => ?_) AllReadyIn.nil)
            rw [if_pos (by rfl)]
            refine wpIn_appendP _ _ _ 68 rfl w.heap.size 93 i0 (.agg #[.slice none 0 0, .slice none 0 0]) 2 48 Try.underlying68 hi hz0 hz1 hz2 rfl (by decide) (.slice Av qs.length cv) qs.length _ rfl (World.ownsRow.alloc (HO.out.next HB4.out).row (.cells #[.slice A7 x.1.2.1.length c7, .slice A8 x.1.2.2.length c8] 93)) ⟨W4.heap.size, 0, none⟩ 1 1 [.slice A7 x.1.2.1.length c7, .slice A8 x.1.2.2.length c8] rfl rfl (fun j u h => cell_lit W4 #[.slice A7 x.1.2.1.length c7, .slice A8 x.1.2.2.length c8] 93 j u h) (by simp [Value.oneCell']) (by have := HQL.out; have := HPL.out; omega) (by have := HQL.out; have := HPL.out; omega) (by have := HLD.out.size; have := HB4.out.size; simp; omega) ?_
            intro v6 w6 hown hgrow _
            obtain ⟨g6, cap6, rfl⟩ := ownsRow_succ hown
            have HST := Lib.hid (rmid_step (n := w4.heap.size) HM1.out HV.out HO.out HLD.out (by omega) (by omega) (by omega) HB4.out HPV.out hown hgrow ⟨g6, cap6, rfl⟩ HQ.out HPS.out)
            have h6 := (row_step (n := 0) HV.out HO.out HLD.out (by omega) HB4.out HPV.out hown hgrow ⟨g6, cap6, rfl⟩).1
            have y0 := h6.cell
            have y1 := h6.frozen
            clear hown hgrow h6
            refine hK _ _ ?_
            clear hK K
            refine wpAnyIn_ready (rs := [7]) (by kernel_rfl) (by simp) (AllReadyIn.cons rfl (fun K hK => ?_) AllReadyIn.nil)
            go_simp
            refine hK _ _ ?_
            clear hK K
            refine wpAnyIn_done (by kernel_rfl) ?_ _
            gi_wp2
            exact ⟨HK0.out.trans HST.out.1, HK1.out.trans HST.out.2.1, HST.out.2.2⟩
          ·
            go_simp
            refine hK _ _ ?_
            clear hK K
            refine wpAnyIn_ready (rs := [0, 3]) (by kernel_rfl) (by simp) (AllReadyIn.cons rfl (fun K hK => ?_) (AllReadyIn.cons rfl (fun K hK => ?_) AllReadyIn.nil))
            ·
              go_simp
              refine hK _ _ ?_
              clear hK K
              refine wpAnyIn_ready (rs := [3]) (by kernel_rfl) (by simp) (AllReadyIn.cons rfl (fun K hK => ?_) AllReadyIn.nil)
              go_simp
              refine hK _ _ ?_
              clear hK K
              refine wpAnyIn_ready (rs := [4]) (by kernel_rfl) (by simp) (AllReadyIn.cons rfl (fun K hK => ?_) AllReadyIn.nil)
              go_simp
              refine ⟨wide_deep _, (CallsIn.inRound lp (callsIn_wide.2 HOW.out)).mono ?_⟩
              rintro e W4 ⟨v4, he, hpv, hb4⟩
              obtain ⟨A7, c7, A8, c8, M7, e7, _⟩ := id hpv
              rw [e7] at he hpv
              subst he
              have HPV := Lib.hid hpv
              have HB4 := Lib.hid hb4
              have b4 := (hb4.cell (p := ⟨w.heap.size + 1 + 1, 0, none⟩) HBL.out).trans b0
              clear hpv hb4 e7
              refine hK _ _ ?_
              clear hK K
              refine wpAnyIn_ready (rs := [5]) (by kernel_rfl) (by simp) (AllReadyIn.cons rfl (fun K hK => ?_) AllReadyIn.nil)
              have b5 : (W4.alloc (.cells #[.slice A7 x.1.2.1.length c7, .slice A8 x.1.2.2.length c8] 93)).cell? ⟨w.heap.size + 1 + 1, 0, none⟩ = some (.slice Av qs.length cv) := (((Below.refl W4.heap.size W4).alloc (Nat.le_refl _) _).cell (p := ⟨w.heap.size + 1 + 1, 0, none⟩) (Nat.lt_of_lt_of_le HBL.out HB4.out.size)).trans b4
              go_simp
              refine hK _ _ ?_
              clear hK K
              refine wpAnyIn_ready (rs := [6]) (by kernel_rfl) (by simp) (AllReadyIn.cons rfl (fun K hK => ?_) AllReadyIn.nil)
              rw [if_pos (by rfl)]
              refine wpIn_appendP _ _ _ 68 rfl w.heap.size 93 i0 (.agg #[.slice none 0 0, .slice none 0 0]) 2 48 Try.underlying68 hi hz0 hz1 hz2 rfl (by decide) (.slice Av qs.length cv) qs.length _ rfl (World.ownsRow.alloc (HO.out.next HB4.out).row (.cells #[.slice A7 x.1.2.1.length c7, .slice A8 x.1.2.2.length c8] 93)) ⟨W4.heap.size, 0, none⟩ 1 1 [.slice A7 x.1.2.1.length c7, .slice A8 x.1.2.2.length c8] rfl rfl (fun j u h => cell_lit W4 #[.slice A7 x.1.2.1.length c7, .slice A8 x.1.2.2.length c8] 93 j u h) (by simp [Value.oneCell']) (by have := HQL.out; have := HPL.out; omega) (by have := HQL.out; have := HPL.out; omega) (by have := HLD.out.size; have := HB4.out.size; simp; omega) ?_
              intro v6 w6 hown hgrow _
              obtain ⟨g6, cap6, rfl⟩ := ownsRow_succ hown
              have HST := Lib.hid (rmid_step (n := w4.heap.size) HM1.out HV.out HO.out HLD.out (by omega) (by omega) (by omega) HB4.out HPV.out hown hgrow ⟨g6, cap6, rfl⟩ HQ.out HPS.out)
              have h6 := (row_step (n := 0) HV.out HO.out HLD.out (by omega) HB4.out HPV.out hown hgrow ⟨g6, cap6, rfl⟩).1
              have y0 := h6.cell
              have y1 := h6.frozen
              clear hown hgrow h6
              refine hK _ _ ?_
              clear hK K
              refine wpAnyIn_ready (rs := [7]) (by kernel_rfl) (by simp) (AllReadyIn.cons rfl (fun K hK => ?_) AllReadyIn.nil)
              go_simp
              refine hK _ _ ?_
              clear hK K
              refine wpAnyIn_done (by kernel_rfl) ?_ _
              gi_wp2
              exact ⟨HK0.out.trans HST.out.1, HK1.out.trans HST.out.2.1, HST.out.2.2⟩
            ·
              go_simp
              refine hK _ _ ?_
              clear hK K
              refine wpAnyIn_ready (rs := [0, 4]) (by kernel_rfl) (by simp) (AllReadyIn.cons rfl (fun K hK => ?_) (AllReadyIn.cons rfl (fun K hK => ?_) AllReadyIn.nil))
              ·
                go_simp
                refine hK _ _ ?_
                clear hK K
                refine wpAnyIn_ready (rs := [4]) (by kernel_rfl) (by simp) (AllReadyIn.cons rfl (fun K hK => ?_) AllReadyIn.nil)
                go_simp
                refine ⟨wide_deep _, (CallsIn.inRound lp (callsIn_wide.2 HOW.out)).mono ?_⟩
                rintro e W4 ⟨v4, he, hpv, hb4⟩
                obtain ⟨A7, c7, A8, c8, M7, e7, _⟩ := id hpv
                rw [e7] at he hpv
                subst he
                have HPV := Lib.hid hpv
                have HB4 := Lib.hid hb4
                have b4 := (hb4.cell (p := ⟨w.heap.size + 1 + 1, 0, none⟩) HBL.out).trans b0
                clear hpv hb4 e7
                refine hK _ _ ?_
                clear hK K
                refine wpAnyIn_ready (rs := [5]) (by kernel_rfl) (by simp) (AllReadyIn.cons rfl (fun K hK => ?_) AllReadyIn.nil)
                have b5 : (W4.alloc (.cells #[.slice A7 x.1.2.1.length c7, .slice A8 x.1.2.2.length c8] 93)).cell? ⟨w.heap.size + 1 + 1, 0, none⟩ = some (.slice Av qs.length cv) := (((Below.refl W4.heap.size W4).alloc (Nat.le_refl _) _).cell (p := ⟨w.heap.size + 1 + 1, 0, none⟩) (Nat.lt_of_lt_of_le HBL.out HB4.out.size)).trans b4
                go_simp
                refine hK _ _ ?_
                clear hK K
                refine wpAnyIn_ready (rs := [6]) (by kernel_rfl) (by simp) (AllReadyIn.cons rfl (fun K hK => ?_) AllReadyIn.nil)
                rw [if_pos (by rfl)]
                refine wpIn_appendP _ _ _ 68 rfl w.heap.size 93 i0 (.agg #[.slice none 0 0, .slice none 0 0]) 2 48 Try.underlying68 hi hz0 hz1 hz2 rfl (by decide) (.slice Av qs.length cv) qs.length _ rfl (World.ownsRow.alloc (HO.out.next HB4.out).row (.cells #[.slice A7 x.1.2.1.length c7, .slice A8 x.1.2.2.length c8] 93)) ⟨W4.heap.size, 0, none⟩ 1 1 [.slice A7 x.1.2.1.length c7, .slice A8 x.1.2.2.length c8] rfl rfl (fun j u h => cell_lit W4 #[.slice A7 x.1.2.1.length c7, .slice A8 x.1.2.2.length c8] 93 j u h) (by simp [Value.oneCell']) (by have := HQL.out; have := HPL.out; omega) (by have := HQL.out; have := HPL.out; omega) (by have := HLD.out.size; have := HB4.out.size; simp; omega) ?_
                intro v6 w6 hown hgrow _
                obtain ⟨g6, cap6, rfl⟩ := ownsRow_succ hown
                have HST := Lib.hid (rmid_step (n := w4.heap.size) HM1.out HV.out HO.out HLD.out (by omega) (by omega) (by omega) HB4.out HPV.out hown hgrow ⟨g6, cap6, rfl⟩ HQ.out HPS.out)
                have h6 := (row_step (n := 0) HV.out HO.out HLD.out (by omega) HB4.out HPV.out hown hgrow ⟨g6, cap6, rfl⟩).1
                have y0 := h6.cell
                have y1 := h6.frozen
                clear hown hgrow h6
                refine hK _ _ ?_
                clear hK K
                refine wpAnyIn_ready (rs := [7]) (by kernel_rfl) (by simp) (AllReadyIn.cons rfl (fun K hK => ?_) AllReadyIn.nil)
                go_simp
                refine hK _ _ ?_
                clear hK K
                refine wpAnyIn_done (by kernel_rfl) ?_ _
                gi_wp2
                exact ⟨HK0.out.trans HST.out.1, HK1.out.trans HST.out.2.1, HST.out.2.2⟩
              ·
                go_simp
                refine ⟨wide_deep _, (CallsIn.inRound lp (callsIn_wide.2 HOW.out)).mono ?_⟩
                rintro e W4 ⟨v4, he, hpv, hb4⟩
                obtain ⟨A7, c7, A8, c8, M7, e7, _⟩ := id hpv
                rw [e7] at he hpv
                subst he
                have HPV := Lib.hid hpv
                have HB4 := Lib.hid hb4
                have b4 := (hb4.cell (p := ⟨w.heap.size + 1 + 1, 0, none⟩) HBL.out).trans b0
                clear hpv hb4 e7
                refine hK _ _ ?_
                clear hK K
                refine wpAnyIn_ready (rs := [0, 5]) (by kernel_rfl) (by simp) (AllReadyIn.cons rfl (fun K hK => ?_) (AllReadyIn.cons rfl (fun K hK => ?_) AllReadyIn.nil))
                ·
                  go_simp
                  refine hK _ _ ?_
                  clear hK K
                  refine wpAnyIn_ready (rs := [5]) (by kernel_rfl) (by simp) (AllReadyIn.cons rfl (fun K hK => ?_) AllReadyIn.nil)
                  have b5 : (W4.alloc (.cells #[.slice A7 x.1.2.1.length c7, .slice A8 x.1.2.2.length c8] 93)).cell? ⟨w.heap.size + 1 + 1, 0, none⟩ = some (.slice Av qs.length cv) := (((Below.refl W4.heap.size W4).alloc (Nat.le_refl _) _).cell (p := ⟨w.heap.size + 1 + 1, 0, none⟩) (Nat.lt_of_lt_of_le HBL.out HB4.out.size)).trans b4
                  go_simp
                  refine hK _ _ ?_
                  clear hK K
                  refine wpAnyIn_ready (rs := [6]) (by kernel_rfl) (by simp) (AllReadyIn.cons rfl (fun K hK => ?_) AllReadyIn.nil)
                  rw [if_pos (by rfl)]
                  refine wpIn_appendP _ _ _ 68 rfl w.heap.size 93 i0 (.agg #[.slice none 0 0, .slice none 0 0]) 2 48 Try.underlying68 hi hz0 hz1 hz2 rfl (by decide) (.slice Av qs.length cv) qs.length _ rfl (World.ownsRow.alloc (HO.out.next HB4.out).row (.cells #[.slice A7 x.1.2.1.length c7, .slice A8 x.1.2.2.length c8] 93)) ⟨W4.heap.size, 0, none⟩ 1 1 [.slice A7 x.1.2.1.length c7, .slice A8 x.1.2.2.length c8] rfl rfl (fun j u h => cell_lit W4 #[.slice A7 x.1.2.1.length c7, .slice A8 x.1.2.2.length c8] 93 j u h) (by simp [Value.oneCell']) (by have := HQL.out; have := HPL.out; omega) (by have := HQL.out; have := HPL.out; omega) (by have := HLD.out.size; have := HB4.out.size; simp; omega) ?_
                  intro v6 w6 hown hgrow _
                  obtain ⟨g6, cap6, rfl⟩ := ownsRow_succ hown
                  have HST := Lib.hid (rmid_step (n := w4.heap.size) HM1.out HV.out HO.out HLD.out (by omega) (by omega) (by omega) HB4.out HPV.out hown hgrow ⟨g6, cap6, rfl⟩ HQ.out HPS.out)
                  have h6 := (row_step (n := 0) HV.out HO.out HLD.out (by omega) HB4.out HPV.out hown hgrow ⟨g6, cap6, rfl⟩).1
                  have y0 := h6.cell
                  have y1 := h6.frozen
                  clear hown hgrow h6
                  refine hK _ _ ?_
                  clear hK K
                  refine wpAnyIn_ready (rs := [7]) (by kernel_rfl) (by simp) (AllReadyIn.cons rfl (fun K hK => ?_) AllReadyIn.nil)
                  go_simp
                  refine hK _ _ ?_
                  clear hK K
                  refine wpAnyIn_done (by kernel_rfl) ?_ _
                  gi_wp2
                  exact ⟨HK0.out.trans HST.out.1, HK1.out.trans HST.out.2.1, HST.out.2.2⟩
                ·
                  have b5 : (W4.alloc (.cells #[.slice A7 x.1.2.1.length c7, .slice A8 x.1.2.2.length c8] 93)).cell? ⟨w.heap.size + 1 + 1, 0, none⟩ = some (.slice Av qs.length cv) := (((Below.refl W4.heap.size W4).alloc (Nat.le_refl _) _).cell (p := ⟨w.heap.size + 1 + 1, 0, none⟩) (Nat.lt_of_lt_of_le HBL.out HB4.out.size)).trans b4
                  go_simp
                  refine hK _ _ ?_
                  clear hK K
                  refine wpAnyIn_ready (rs := [0]) (by kernel_rfl) (by simp) (AllReadyIn.cons rfl (fun K hK => ?_) AllReadyIn.nil)
                  go_simp
                  refine hK _ _ ?_
                  clear hK K
                  refine wpAnyIn_ready (rs := [6]) (by kernel_rfl) (by simp) (AllReadyIn.cons rfl (fun K hK => ?_) AllReadyIn.nil)
                  rw [if_pos (by rfl)]
                  refine wpIn_appendP _ _ _ 68 rfl w.heap.size 93 i0 (.agg #[.slice none 0 0, .slice none 0 0]) 2 48 Try.underlying68 hi hz0 hz1 hz2 rfl (by decide) (.slice Av qs.length cv) qs.length _ rfl (World.ownsRow.alloc (HO.out.next HB4.out).row (.cells #[.slice A7 x.1.2.1.length c7, .slice A8 x.1.2.2.length c8] 93)) ⟨W4.heap.size, 0, none⟩ 1 1 [.slice A7 x.1.2.1.length c7, .slice A8 x.1.2.2.length c8] rfl rfl (fun j u h => cell_lit W4 #[.slice A7 x.1.2.1.length c7, .slice A8 x.1.2.2.length c8] 93 j u h) (by simp [Value.oneCell']) (by have := HQL.out; have := HPL.out; omega) (by have := HQL.out; have := HPL.out; omega) (by have := HLD.out.size; have := HB4.out.size; simp; omega) ?_
                  intro v6 w6 hown hgrow _
                  obtain ⟨g6, cap6, rfl⟩ := ownsRow_succ hown
                  have HST := Lib.hid (rmid_step (n := w4.heap.size) HM1.out HV.out HO.out HLD.out (by omega) (by omega) (by omega) HB4.out HPV.out hown hgrow ⟨g6, cap6, rfl⟩ HQ.out HPS.out)
                  have h6 := (row_step (n := 0) HV.out HO.out HLD.out (by omega) HB4.out HPV.out hown hgrow ⟨g6, cap6, rfl⟩).1
                  have y0 := h6.cell
                  have y1 := h6.frozen
                  clear hown hgrow h6
                  refine hK _ _ ?_
                  clear hK K
                  refine wpAnyIn_ready (rs := [7]) (by kernel_rfl) (by simp) (AllReadyIn.cons rfl (fun K hK => ?_) AllReadyIn.nil)
                  go_simp
                  refine hK _ _ ?_
                  clear hK K
                  refine wpAnyIn_done (by kernel_rfl) ?_ _
                  gi_wp2
                  exact ⟨HK0.out.trans HST.out.1, HK1.out.trans HST.out.2.1, HST.out.2.2⟩
      · have z2 : 0 < to.length := List.length_pos_iff.2 g2
        have z1 : decide (0 < to.length) = true := decide_eq_true z2
        have z3 : (0 : Int) < (to.length : Int) := by omega
        have HG2 := Lib.hid g2
        have hcw := HCM.out W.drew HLW.out.drew
        obtain ⟨o, ho⟩ : ∃ o, ordL x.1.2.1 to = o := ⟨_, rfl⟩
        rw [ho] at hcw
        have HOE := Lib.hid ho
        have HCW := Lib.hid hcw
        clear hcw ho HCM g2
        by_cases g3 : 0 ≤ o
        · have g3' : decide (0 ≤ o) = true := decide_eq_true g3
          have HR : Hid (RStop w (w.heap.size + 1 + 1) to most (.exit 0) (pre ++ [x]) W.drew) := ⟨rfl, ⟨_, qs, pre, x, HV.out, HO.out.next (Below.refl W.heap.size W).drew, rfl, HQ.out, HM.out.ps, .inr ⟨HG2.out, by rw [HOE.out]; exact g3⟩⟩, HLW.out.drew⟩
          gi_wp2
          refine wpIn_mono (Q := fun e a' w' => e = .normal ∧ a' = { tmps := #[.pointer u, .slice A k.length c, (.slice A' to.length c'), .int .i64 most, undef, undef, .pointer (some ⟨w.heap.size, 0, none⟩), .pointer (some ⟨w.heap.size + 1, 0, none⟩), .slice none 0 0, .pointer (some ⟨w.heap.size + 1 + 1, 0, none⟩), .pointer (some ⟨x.1.1, 0, none⟩), .pointer u, .pointer ut, .slice A k.length c, (.func (.func 87) #[] #[.pointer (some ⟨w3.heap.size, 0, none⟩), .pointer (some ⟨w3.heap.size + 1, 0, none⟩)]), .pointer (some ⟨x.1.1, 0, none⟩), .slice Av qs.length cv, .int .i64 qs.length, .int .i64 most, .bool false, .bool false, (.slice A' to.length c'), .int .i64 to.length, .bool true, .bool true, .pointer (some ⟨x.1.1, 0, none⟩), .pointer (some ⟨x.1.1, 0, none⟩), .pointer (some ⟨x.1.1, 0, none⟩), .slice A5 x.1.2.1.length c5, (.slice A' to.length c'), .int .i64 o, .bool true, .bool true, .bool true, undef, undef, undef, undef, undef, undef, undef, undef], defers := [] } ∧ w' = W.drew) ?_ ?_
          · gi_region_with_o (refine ⟨wide_deep _, (CallsIn.inRound lp (callsIn_wide.2 HCW.out)).mono ?_⟩; rintro e W4 ⟨rfl, rfl⟩)
            all_goals exact ⟨rfl, rfl, rfl⟩
          rintro e a' w' ⟨rfl, rfl, rfl⟩
          gi_wp2
          exact ⟨keepsFrom_below ((Below.refl W.heap.size W).drew), HR.out⟩
        · have g3' : decide (0 ≤ o) = false := decide_eq_false g3
          have HPS : Hid (¬ (most - pre.length ≤ 0 ∨ (to ≠ [] ∧ 0 ≤ ordL x.1.2.1 to))) := by show ¬ _; have := HQL.out; rw [HOE.out]; omega
          gi_wp2
          refine wpIn_mono (Q := fun e a' w' => e = .normal ∧ a' = { tmps := #[.pointer u, .slice A k.length c, (.slice A' to.length c'), .int .i64 most, undef, undef, .pointer (some ⟨w.heap.size, 0, none⟩), .pointer (some ⟨w.heap.size + 1, 0, none⟩), .slice none 0 0, .pointer (some ⟨w.heap.size + 1 + 1, 0, none⟩), .pointer (some ⟨x.1.1, 0, none⟩), .pointer u, .pointer ut, .slice A k.length c, (.func (.func 87) #[] #[.pointer (some ⟨w3.heap.size, 0, none⟩), .pointer (some ⟨w3.heap.size + 1, 0, none⟩)]), .pointer (some ⟨x.1.1, 0, none⟩), .slice Av qs.length cv, .int .i64 qs.length, .int .i64 most, .bool false, .bool false, (.slice A' to.length c'), .int .i64 to.length, .bool true, .bool true, .pointer (some ⟨x.1.1, 0, none⟩), .pointer (some ⟨x.1.1, 0, none⟩), .pointer (some ⟨x.1.1, 0, none⟩), .slice A5 x.1.2.1.length c5, (.slice A' to.length c'), .int .i64 o, .bool false, .bool false, .bool false, undef, undef, undef, undef, undef, undef, undef, undef], defers := [] } ∧ w' = W.drew) ?_ ?_
          · gi_region_with_o (refine ⟨wide_deep _, (CallsIn.inRound lp (callsIn_wide.2 HCW.out)).mono ?_⟩; rintro e W4 ⟨rfl, rfl⟩)
            all_goals exact ⟨rfl, rfl, rfl⟩
          rintro e a' w' ⟨rfl, rfl, rfl⟩
          obtain ⟨W1, hW1⟩ : ∃ X, W.drew = X := ⟨_, rfl⟩
          rw [hW1]
          gi_wp2
          refine wpIn_region_any (by assumption) ?_
          obtain ⟨Wd, hWd⟩ : ∃ X, W1.drew = X := ⟨_, rfl⟩
          have hbd : Below W.heap.size W Wd := by rw [← hWd, ← hW1]; exact (Below.refl W.heap.size W).drew.drew
          have HOWX := Lib.hid (HOW.out Wd (HLW.out.trans (hbd.mono HLW.out.size)))
          have hM1 := (HM.out).next hbd
          have HM1 := Lib.hid hM1
          have HLD := Lib.hid hM1.low
          have hv1 : Boxed Wd (w.heap.size + 1 + 1) 68 (.slice Av qs.length cv) := (hbd.block _ HV.out.lt).trans HV.out
          have HO0 := HO
          have HV0 := HV
          clear HO HV
          have HO := Lib.hid (HO0.out.next hbd)
          have HV := Lib.hid hv1
          have HBL := Lib.hid hv1.lt
          have HK0 := Lib.hid (keepsFrom_below (B := w4.heap.size) hbd)
          have HK1 := Lib.hid (hbd.mono HLW.out.size)
          have b0' := hv1.cell
          have p0' := (HP0.out Wd hM1.low).1
          have p1' := (HP0.out Wd hM1.low).2
          clear b0 b1 b2
          try clear p0
          have b0 := b0'
          have p0 := p0'
          have p1 := p1'
          clear b0' p0' p1'
          have HOW := HOWX
          try (change wpAnyIn _ _ _ _ _ _ _ _ _ W1.drew)
          rw [hWd]
          clear hbd hM1 hv1 hW1 hWd HOWX HM HO0 HV0
          refine wpAnyIn_ready (rs := [0, 1]) (by kernel_rfl) (by simp) (AllReadyIn.cons rfl (fun K hK => ?_) (AllReadyIn.cons rfl (fun K hK => ?_) AllReadyIn.nil))
          ·
            go_simp
            refine hK _ _ ?_
            clear hK K
            refine wpAnyIn_ready (rs := [1]) (by kernel_rfl) (by simp) (AllReadyIn.cons rfl (fun K hK => ?_) AllReadyIn.nil)
            go_simp
            refine hK _ _ ?_
            clear hK K
            refine wpAnyIn_ready (rs := [2]) (by kernel_rfl) (by simp) (AllReadyIn.cons rfl (fun K hK => ?_) AllReadyIn.nil)
            go_simp
            refine hK _ _ ?_
            clear hK K
            refine wpAnyIn_ready (rs := [3]) (by kernel_rfl) (by simp) (AllReadyIn.cons rfl (fun K hK => ?_) AllReadyIn.nil)
            go_simp
            refine hK _ _ ?_
            clear hK K
            refine wpAnyIn_ready (rs := [4]) (by kernel_rfl) (by simp) (AllReadyIn.cons rfl (fun K hK => ?_) AllReadyIn.nil)
            go_simp
            refine ⟨wide_deep _, (CallsIn.inRound lp (callsIn_wide.2 HOW.out)).mono ?_⟩
            rintro e W4 ⟨v4, he, hpv, hb4⟩
            obtain ⟨A7, c7, A8, c8, M7, e7, _⟩ := id hpv
            rw [e7] at he hpv
            subst he
            have HPV := Lib.hid hpv
            have HB4 := Lib.hid hb4
            have b4 := (hb4.cell (p := ⟨w.heap.size + 1 + 1, 0, none⟩) HBL.out).trans b0
            clear hpv hb4 e7
            refine hK _ _ ?_
            clear hK K
            refine wpAnyIn_ready (rs := [5]) (by kernel_rfl) (by simp) (AllReadyIn.cons rfl (fun K hK => ?_) AllReadyIn.nil)
            have b5 : (W4.alloc (.cells #[.slice A7 x.1.2.1.length c7, .slice A8 x.1.2.2.length c8] 93)).cell? ⟨w.heap.size + 1 + 1, 0, none⟩ = some (.slice Av qs.length cv) := (((Below.refl W4.heap.size W4).alloc (Nat.le_refl _) _).cell (p := ⟨w.heap.size + 1 + 1, 0, none⟩) (Nat.lt_of_lt_of_le HBL.out HB4.out.size)).trans b4
            go_simp
            refine hK _ _ ?_
            clear hK K
            refine wpAnyIn_ready (rs := [6]) (by kernel_rfl) (by simp) (AllReadyIn.cons rfl (fun K hK => ?_) AllReadyIn.nil)
            rw [if_pos (by rfl)]
            refine wpIn_appendP _ _ _ 68 rfl w.heap.size 93 i0 (.agg #[.slice none 0 0, .slice none 0 0]) 2 48 Try.underlying68 hi hz0 hz1 hz2 rfl (by decide) (.slice Av qs.length cv) qs.length _ rfl (World.ownsRow.alloc (HO.out.next HB4.out).row (.cells #[.slice A7 x.1.2.1.length c7, .slice A8 x.1.2.2.length c8] 93)) ⟨W4.heap.size, 0, none⟩ 1 1 [.slice A7 x.1.2.1.length c7, .slice A8 x.1.2.2.length c8] rfl rfl (fun j u h => cell_lit W4 #[.slice A7 x.1.2.1.length c7, .slice A8 x.1.2.2.length c8] 93 j u h) (by simp [Value.oneCell']) (by have := HQL.out; have := HPL.out; omega) (by have := HQL.out; have := HPL.out; omega) (by have := HLD.out.size; have := HB4.out.size; simp; omega) ?_
            intro v6 w6 hown hgrow _
            obtain ⟨g6, cap6, rfl⟩ := ownsRow_succ hown
            have HST := Lib.hid (rmid_step (n := w4.heap.size) HM1.out HV.out HO.out HLD.out (by omega) (by omega) (by omega) HB4.out HPV.out hown hgrow ⟨g6, cap6, rfl⟩ HQ.out HPS.out)
            have h6 := (row_step (n := 0) HV.out HO.out HLD.out (by omega) HB4.out HPV.out hown hgrow ⟨g6, cap6, rfl⟩).1
            have y0 := h6.cell
            have y1 := h6.frozen
            clear hown hgrow h6
            refine hK _ _ ?_
            clear hK K
            refine wpAnyIn_ready (rs := [7]) (by kernel_rfl) (by simp) (AllReadyIn.cons rfl (fun K hK => ?_) AllReadyIn.nil)
            go_simp
            refine hK _ _ ?_
            clear hK K
            refine wpAnyIn_done (by kernel_rfl) ?_ _
            gi_wp2
            exact ⟨HK0.out.trans HST.out.1, HK1.out.trans HST.out.2.1, HST.out.2.2⟩
          ·
            go_simp
            refine hK _ _ ?_
            clear hK K
            refine wpAnyIn_ready (rs := [0, 2]) (by kernel_rfl) (by simp) (AllReadyIn.cons rfl (fun K hK => ?_) (AllReadyIn.cons rfl (fun K hK => ?_) AllReadyIn.nil))
            ·
              go_simp
              refine hK _ _ ?_
              clear hK K
              refine wpAnyIn_ready (rs := [2]) (by kernel_rfl) (by simp) (AllReadyIn.cons rfl (fun K hK => ?_) AllReadyIn.nil)
              go_simp
              refine hK _ _ ?_
              clear hK K
              refine wpAnyIn_ready (rs := [3]) (by kernel_rfl) (by simp) (AllReadyIn.cons rfl (fun K hK => ?_) AllReadyIn.nil)
              go_simp
              refine hK _ _ ?_
              clear hK K
              refine wpAnyIn_ready (rs := [4]) (by kernel_rfl) (by simp) (AllReadyIn.cons rfl (fun K hK => ?_) AllReadyIn.nil)
              go_simp
              refine ⟨wide_deep _, (CallsIn.inRound lp (callsIn_wide.2 HOW.out)).mono ?_⟩
              rintro e W4 ⟨v4, he, hpv, hb4⟩
              obtain ⟨A7, c7, A8, c8, M7, e7, _⟩ := id hpv
              rw [e7] at he hpv
              subst he
              have HPV := Lib.hid hpv
              have HB4 := Lib.hid hb4
              have b4 := (hb4.cell (p := ⟨w.heap.size + 1 + 1, 0, none⟩) HBL.out).trans b0
              clear hpv hb4 e7
              refine hK _ _ ?_
              clear hK K
              refine wpAnyIn_ready (rs := [5]) (by kernel_rfl) (by simp) (AllReadyIn.cons rfl (fun K hK => ?_) AllReadyIn.nil)
              have b5 : (W4.alloc (.cells #[.slice A7 x.1.2.1.length c7, .slice A8 x.1.2.2.length c8] 93)).cell? ⟨w.heap.size + 1 + 1, 0, none⟩ = some (.slice Av qs.length cv) := (((Below.refl W4.heap.size W4).alloc (Nat.le_refl _) _).cell (p := ⟨w.heap.size + 1 + 1, 0, none⟩) (Nat.lt_of_lt_of_le HBL.out HB4.out.size)).trans b4
              go_simp
              refine hK _ _ ?_
              clear hK K
              refine wpAnyIn_ready (rs := [6]) (by kernel_rfl) (by simp) (AllReadyIn.cons rfl (fun K hK => ?_) AllReadyIn.nil)
              rw [if_pos (by rfl)]
              refine wpIn_appendP _ _ _ 68 rfl w.heap.size 93 i0 (.agg #[.slice none 0 0, .slice none 0 0]) 2 48 Try.underlying68 hi hz0 hz1 hz2 rfl (by decide) (.slice Av qs.length cv) qs.length _ rfl (World.ownsRow.alloc (HO.out.next HB4.out).row (.cells #[.slice A7 x.1.2.1.length c7, .slice A8 x.1.2.2.length c8] 93)) ⟨W4.heap.size, 0, none⟩ 1 1 [.slice A7 x.1.2.1.length c7, .slice A8 x.1.2.2.length c8] rfl rfl (fun j u h => cell_lit W4 #[.slice A7 x.1.2.1.length c7, .slice A8 x.1.2.2.length c8] 93 j u h) (by simp [Value.oneCell']) (by have := HQL.out; have := HPL.out; omega) (by have := HQL.out; have := HPL.out; omega) (by have := HLD.out.size; have := HB4.out.size; simp; omega) ?_
              intro v6 w6 hown hgrow _
              obtain ⟨g6, cap6, rfl⟩ := ownsRow_succ hown
              have HST := Lib.hid (rmid_step (n := w4.heap.size) HM1.out HV.out HO.out HLD.out (by omega) (by omega) (by omega) HB4.out HPV.out hown hgrow ⟨g6, cap6, rfl⟩ HQ.out HPS.out)
              have h6 := (row_step (n := 0) HV.out HO.out HLD.out (by omega) HB4.out HPV.out hown hgrow ⟨g6, cap6, rfl⟩).1
              have y0 := h6.cell
              have y1 := h6.frozen
              clear hown hgrow h6
              refine hK _ _ ?_
              clear hK K
              refine wpAnyIn_ready (rs := [7]) (by kernel_rfl) (by simp) (AllReadyIn.cons rfl (fun K hK => ?_) AllReadyIn.nil)
              go_simp
              refine hK _ _ ?_
              clear hK K
              refine wpAnyIn_done (by kernel_rfl) ?_ _
              gi_wp2
              exact ⟨HK0.out.trans HST.out.1, HK1.out.trans HST.out.2.1, HST.out.2.2⟩
            ·
              go_simp
              refine hK _ _ ?_
              clear hK K
              refine wpAnyIn_ready (rs := [0, 3]) (by kernel_rfl) (by simp) (AllReadyIn.cons rfl (fun K hK => ?_) (AllReadyIn.cons rfl (fun K hK => ?_) AllReadyIn.nil))
              ·
                go_simp
                refine hK _ _ ?_
                clear hK K
                refine wpAnyIn_ready (rs := [3]) (by kernel_rfl) (by simp) (AllReadyIn.cons rfl (fun K hK => ?_) AllReadyIn.nil)
                go_simp
                refine hK _ _ ?_
                clear hK K
                refine wpAnyIn_ready (rs := [4]) (by kernel_rfl) (by simp) (AllReadyIn.cons rfl (fun K hK => ?_) AllReadyIn.nil)
                go_simp
                refine ⟨wide_deep _, (CallsIn.inRound lp (callsIn_wide.2 HOW.out)).mono ?_⟩
                rintro e W4 ⟨v4, he, hpv, hb4⟩
                obtain ⟨A7, c7, A8, c8, M7, e7, _⟩ := id hpv
                rw [e7] at he hpv
                subst he
                have HPV := Lib.hid hpv
                have HB4 := Lib.hid hb4
                have b4 := (hb4.cell (p := ⟨w.heap.size + 1 + 1, 0, none⟩) HBL.out).trans b0
                clear hpv hb4 e7
                refine hK _ _ ?_
                clear hK K
                refine wpAnyIn_ready (rs := [5]) (by kernel_rfl) (by simp) (AllReadyIn.cons rfl (fun K hK => ?_) AllReadyIn.nil)
                have b5 : (W4.alloc (.cells #[.slice A7 x.1.2.1.length c7, .slice A8 x.1.2.2.length c8] 93)).cell? ⟨w.heap.size + 1 + 1, 0, none⟩ = some (.slice Av qs.length cv) := (((Below.refl W4.heap.size W4).alloc (Nat.le_refl _) _).cell (p := ⟨w.heap.size + 1 + 1, 0, none⟩) (Nat.lt_of_lt_of_le HBL.out HB4.out.size)).trans b4
                go_simp
                refine hK _ _ ?_
                clear hK K
                refine wpAnyIn_ready (rs := [6]) (by kernel_rfl) (by simp) (AllReadyIn.cons rfl (fun K hK => ?_) AllReadyIn.nil)
                rw [if_pos (by rfl)]
                refine wpIn_appendP _ _ _ 68 rfl w.heap.size 93 i0 (.agg #[.slice none 0 0, .slice none 0 0]) 2 48 Try.underlying68 hi hz0 hz1 hz2 rfl (by decide) (.slice Av qs.length cv) qs.length _ rfl (World.ownsRow.alloc (HO.out.next HB4.out).row (.cells #[.slice A7 x.1.2.1.length c7, .slice A8 x.1.2.2.length c8] 93)) ⟨W4.heap.size, 0, none⟩ 1 1 [.slice A7 x.1.2.1.length c7, .slice A8 x.1.2.2.length c8] rfl rfl (fun j u h => cell_lit W4 #[.slice A7 x.1.2.1.length c7, .slice A8 x.1.2.2.length c8] 93 j u h) (by simp [Value.oneCell']) (by have := HQL.out; have := HPL.out; omega) (by have := HQL.out; have := HPL.out; omega) (by have := HLD.out.size; have := HB4.out.size; simp; omega) ?_
                intro v6 w6 hown hgrow _
                obtain ⟨g6, cap6, rfl⟩ := ownsRow_succ hown
                have HST := Lib.hid (rmid_step (n := w4.heap.size) HM1.out HV.out HO.out HLD.out (by omega) (by omega) (by omega) HB4.out HPV.out hown hgrow ⟨g6, cap6, rfl⟩ HQ.out HPS.out)
                have h6 := (row_step (n := 0) HV.out HO.out HLD.out (by omega) HB4.out HPV.out hown hgrow ⟨g6, cap6, rfl⟩).1
                have y0 := h6.cell
                have y1 := h6.frozen
                clear hown hgrow h6
                refine hK _ _ ?_
                clear hK K
                refine wpAnyIn_ready (rs := [7]) (by kernel_rfl) (by simp) (AllReadyIn.cons rfl (fun K hK => ?_) AllReadyIn.nil)
                go_simp
                refine hK _ _ ?_
                clear hK K
                refine wpAnyIn_done (by kernel_rfl) ?_ _
                gi_wp2
                exact ⟨HK0.out.trans HST.out.1, HK1.out.trans HST.out.2.1, HST.out.2.2⟩
              ·
                go_simp
                refine hK _ _ ?_
                clear hK K
                refine wpAnyIn_ready (rs := [0, 4]) (by kernel_rfl) (by simp) (AllReadyIn.cons rfl (fun K hK => ?_) (AllReadyIn.cons rfl (fun K hK => ?_) AllReadyIn.nil))
                ·
                  go_simp
                  refine hK _ _ ?_
                  clear hK K
                  refine wpAnyIn_ready (rs := [4]) (by kernel_rfl) (by simp) (AllReadyIn.cons rfl (fun K hK => ?_) AllReadyIn.nil)
                  go_simp
                  refine ⟨wide_deep _, (CallsIn.inRound lp (callsIn_wide.2 HOW.out)).mono ?_⟩
                  rintro e W4 ⟨v4, he, hpv, hb4⟩
                  obtain ⟨A7, c7, A8, c8, M7, e7, _⟩ := id hpv
                  rw [e7] at he hpv
                  subst he
                  have HPV := Lib.hid hpv
                  have HB4 := Lib.hid hb4
                  have b4 := (hb4.cell (p := ⟨w.heap.size + 1 + 1, 0, none⟩) HBL.out).trans b0
                  clear hpv hb4 e7
                  refine hK _ _ ?_
                  clear hK K
                  refine wpAnyIn_ready (rs := [5]) (by kernel_rfl) (by simp) (AllReadyIn.cons rfl (fun K hK => ?_) AllReadyIn.nil)
                  have b5 : (W4.alloc (.cells #[.slice A7 x.1.2.1.length c7, .slice A8 x.1.2.2.length c8] 93)).cell? ⟨w.heap.size + 1 + 1, 0, none⟩ = some (.slice Av qs.length cv) := (((Below.refl W4.heap.size W4).alloc (Nat.le_refl _) _).cell (p := ⟨w.heap.size + 1 + 1, 0, none⟩) (Nat.lt_of_lt_of_le HBL.out HB4.out.size)).trans b4
                  go_simp
                  refine hK _ _ ?_
                  clear hK K
                  refine wpAnyIn_ready (rs := [6]) (by kernel_rfl) (by simp) (AllReadyIn.cons rfl (fun K hK => ?_) AllReadyIn.nil)
                  rw [if_pos (by rfl)]
                  refine wpIn_appendP _ _ _ 68 rfl w.heap.size 93 i0 (.agg #[.slice none 0 0, .slice none 0 0]) 2 48 Try.underlying68 hi hz0 hz1 hz2 rfl (by decide) (.slice Av qs.length cv) qs.length _ rfl (World.ownsRow.alloc (HO.out.next HB4.out).row (.cells #[.slice A7 x.1.2.1.length c7, .slice A8 x.1.2.2.length c8] 93)) ⟨W4.heap.size, 0, none⟩ 1 1 [.slice A7 x.1.2.1.length c7, .slice A8 x.1.2.2.length c8] rfl rfl (fun j u h => cell_lit W4 #[.slice A7 x.1.2.1.length c7, .slice A8 x.1.2.2.length c8] 93 j u h) (by simp [Value.oneCell']) (by have := HQL.out; have := HPL.out; omega) (by have := HQL.out; have := HPL.out; omega) (by have := HLD.out.size; have := HB4.out.size; simp; omega) ?_
                  intro v6 w6 hown hgrow _
                  obtain ⟨g6, cap6, rfl⟩ := ownsRow_succ hown
                  have HST := Lib.hid (rmid_step (n := w4.heap.size) HM1.out HV.out HO.out HLD.out (by omega) (by omega) (by omega) HB4.out HPV.out hown hgrow ⟨g6, cap6, rfl⟩ HQ.out HPS.out)
                  have h6 := (row_step (n := 0) HV.out HO.out HLD.out (by omega) HB4.out HPV.out hown hgrow ⟨g6, cap6, rfl⟩).1
                  have y0 := h6.cell
                  have y1 := h6.frozen
                  clear hown hgrow h6
                  refine hK _ _ ?_
                  clear hK K
                  refine wpAnyIn_ready (rs := [7]) (by kernel_rfl) (by simp) (AllReadyIn.cons rfl (fun K hK => ?_) AllReadyIn.nil)
                  go_simp
                  refine hK _ _ ?_
                  clear hK K
                  refine wpAnyIn_done (by kernel_rfl) ?_ _
                  gi_wp2
                  exact ⟨HK0.out.trans HST.out.1, HK1.out.trans HST.out.2.1, HST.out.2.2⟩
                ·
                  go_simp
                  refine ⟨wide_deep _, (CallsIn.inRound lp (callsIn_wide.2 HOW.out)).mono ?_⟩
                  rintro e W4 ⟨v4, he, hpv, hb4⟩
                  obtain ⟨A7, c7, A8, c8, M7, e7, _⟩ := id hpv
                  rw [e7] at he hpv
                  subst he
                  have HPV := Lib.hid hpv
                  have HB4 := Lib.hid hb4
                  have b4 := (hb4.cell (p := ⟨w.heap.size + 1 + 1, 0, none⟩) HBL.out).trans b0
                  clear hpv hb4 e7
                  refine hK _ _ ?_
                  clear hK K
                  refine wpAnyIn_ready (rs := [0, 5]) (by kernel_rfl) (by simp) (AllReadyIn.cons rfl (fun K hK => ?_) (AllReadyIn.cons rfl (fun K hK => ?_) AllReadyIn.nil))
                  ·
                    go_simp
                    refine hK _ _ ?_
                    clear hK K
                    refine wpAnyIn_ready (rs := [5]) (by kernel_rfl) (by simp) (AllReadyIn.cons rfl (fun K hK => ?_) AllReadyIn.nil)
                    have b5 : (W4.alloc (.cells #[.slice A7 x.1.2.1.length c7, .slice A8 x.1.2.2.length c8] 93)).cell? ⟨w.heap.size + 1 + 1, 0, none⟩ = some (.slice Av qs.length cv) := (((Below.refl W4.heap.size W4).alloc (Nat.le_refl _) _).cell (p := ⟨w.heap.size + 1 + 1, 0, none⟩) (Nat.lt_of_lt_of_le HBL.out HB4.out.size)).trans b4
                    go_simp
                    refine hK _ _ ?_
                    clear hK K
                    refine wpAnyIn_ready (rs := [6]) (by kernel_rfl) (by simp) (AllReadyIn.cons rfl (fun K hK => ?_) AllReadyIn.nil)
                    rw [if_pos (by rfl)]
                    refine wpIn_appendP _ _ _ 68 rfl w.heap.size 93 i0 (.agg #[.slice none 0 0, .slice none 0 0]) 2 48 Try.underlying68 hi hz0 hz1 hz2 rfl (by decide) (.slice Av qs.length cv) qs.length _ rfl (World.ownsRow.alloc (HO.out.next HB4.out).row (.cells #[.slice A7 x.1.2.1.length c7, .slice A8 x.1.2.2.length c8] 93)) ⟨W4.heap.size, 0, none⟩ 1 1 [.slice A7 x.1.2.1.length c7, .slice A8 x.1.2.2.length c8] rfl rfl (fun j u h => cell_lit W4 #[.slice A7 x.1.2.1.length c7, .slice A8 x.1.2.2.length c8] 93 j u h) (by simp [Value.oneCell']) (by have := HQL.out; have := HPL.out; omega) (by have := HQL.out; have := HPL.out; omega) (by have := HLD.out.size; have := HB4.out.size; simp; omega) ?_
                    intro v6 w6 hown hgrow _
                    obtain ⟨g6, cap6, rfl⟩ := ownsRow_succ hown
                    have HST := Lib.hid (rmid_step (n := w4.heap.size) HM1.out HV.out HO.out HLD.out (by omega) (by omega) (by omega) HB4.out HPV.out hown hgrow ⟨g6, cap6, rfl⟩ HQ.out HPS.out)
                    have h6 := (row_step (n := 0) HV.out HO.out HLD.out (by omega) HB4.out HPV.out hown hgrow ⟨g6, cap6, rfl⟩).1
                    have y0 := h6.cell
                    have y1 := h6.frozen
                    clear hown hgrow h6
                    refine hK _ _ ?_
                    clear hK K
                    refine wpAnyIn_ready (rs := [7]) (by kernel_rfl) (by simp) (AllReadyIn.cons rfl (fun K hK => ?_) AllReadyIn.nil)
                    go_simp
                    refine hK _ _ ?_
                    clear hK K
                    refine wpAnyIn_done (by kernel_rfl) ?_ _
                    gi_wp2
                    exact ⟨HK0.out.trans HST.out.1, HK1.out.trans HST.out.2.1, HST.out.2.2⟩
                  ·
                    have b5 : (W4.alloc (.cells #[.slice A7 x.1.2.1.length c7, .slice A8 x.1.2.2.length c8] 93)).cell? ⟨w.heap.size + 1 + 1, 0, none⟩ = some (.slice Av qs.length cv) := (((Below.refl W4.heap.size W4).alloc (Nat.le_refl _) _).cell (p := ⟨w.heap.size + 1 + 1, 0, none⟩) (Nat.lt_of_lt_of_le HBL.out HB4.out.size)).trans b4
                    go_simp
                    refine hK _ _ ?_
                    clear hK K
                    refine wpAnyIn_ready (rs := [0]) (by kernel_rfl) (by simp) (AllReadyIn.cons rfl (fun K hK => ?_) AllReadyIn.nil)
                    go_simp
                    refine hK _ _ ?_
                    clear hK K
                    refine wpAnyIn_ready (rs := [6]) (by kernel_rfl) (by simp) (AllReadyIn.cons rfl (fun K hK => ?_) AllReadyIn.nil)
                    rw [if_pos (by rfl)]
                    refine wpIn_appendP _ _ _ 68 rfl w.heap.size 93 i0 (.agg #[.slice none 0 0, .slice none 0 0]) 2 48 Try.underlying68 hi hz0 hz1 hz2 rfl (by decide) (.slice Av qs.length cv) qs.length _ rfl (World.ownsRow.alloc (HO.out.next HB4.out).row (.cells #[.slice A7 x.1.2.1.length c7, .slice A8 x.1.2.2.length c8] 93)) ⟨W4.heap.size, 0, none⟩ 1 1 [.slice A7 x.1.2.1.length c7, .slice A8 x.1.2.2.length c8] rfl rfl (fun j u h => cell_lit W4 #[.slice A7 x.1.2.1.length c7, .slice A8 x.1.2.2.length c8] 93 j u h) (by simp [Value.oneCell']) (by have := HQL.out; have := HPL.out; omega) (by have := HQL.out; have := HPL.out; omega) (by have := HLD.out.size; have := HB4.out.size; simp; omega) ?_
                    intro v6 w6 hown hgrow _
                    obtain ⟨g6, cap6, rfl⟩ := ownsRow_succ hown
                    have HST := Lib.hid (rmid_step (n := w4.heap.size) HM1.out HV.out HO.out HLD.out (by omega) (by omega) (by omega) HB4.out HPV.out hown hgrow ⟨g6, cap6, rfl⟩ HQ.out HPS.out)
                    have h6 := (row_step (n := 0) HV.out HO.out HLD.out (by omega) HB4.out HPV.out hown hgrow ⟨g6, cap6, rfl⟩).1
                    have y0 := h6.cell
                    have y1 := h6.frozen
                    clear hown hgrow h6
                    refine hK _ _ ?_
                    clear hK K
                    refine wpAnyIn_ready (rs := [7]) (by kernel_rfl) (by simp) (AllReadyIn.cons rfl (fun K hK => ?_) AllReadyIn.nil)
                    go_simp
                    refine hK _ _ ?_
                    clear hK K
                    refine wpAnyIn_done (by kernel_rfl) ?_ _
                    gi_wp2
                    exact ⟨HK0.out.trans HST.out.1, HK1.out.trans HST.out.2.1, HST.out.2.2⟩
  case done =>
    rintro D ys W hD rfl hM hK
    obtain ⟨v, qs, hv, ho, hq⟩ := hM.row
    obtain ⟨Av, cv, rfl⟩ := ho.form
    have b0 := hv.cell
    have hps9 := hM.ps
    rw [fromQ_map, tb_list hps] at hps9
    have HQ : Hid (qs.map (·.1) = rgL to most (fromL k t.list)) := by show _ = _; rw [hps9, hq, fromQ_map, tb_list hps]
    have HO := Lib.hid (ho.kept (grownBy_putObj' W D (.deferred none)) (fun r e => by injection e with e; subst e; exact ⟨_, hK, rfl⟩))
    have HE := Lib.hid (hM.low.trans (belowK_b (w := w4) (n₀ := w.heap.size) (by omega) W D _ (.deferred none) hD hK rfl rfl))
    clear hM hv ho hq hps9 hz3 hz4
    gi_wp2
    refine ⟨by simp, .inl ⟨_, _, rfl, run_takeDeferred hK, ?_⟩⟩
    exact ⟨_, results_tmp rfl _ _ _, by exact ⟨_, qs, rfl, HO.out, HQ.out, HE.out⟩⟩
  case stop =>
    rintro D cd pre W hD hsp ⟨rfl, ⟨v, qs, p, x, hv, ho, rfl, hq, hps8, hst⟩, hlow⟩ hK
    obtain ⟨Av, cv, rfl⟩ := ho.form
    have b0 := hv.cell
    have HQ : Hid (qs.map (·.1) = rgL to most (fromL k t.list)) := by
      show _ = _
      obtain ⟨r, hr⟩ := hsp
      have h9 := congrArg (List.map (fun x : PrB w => x.1.2)) hr
      rw [fromQ_map, tb_list hps, List.append_assoc, List.map_append] at h9
      rw [← h9, hq]
      exact (rgL_stop hps8 (by rw [List.length_map]; exact hst)).symm
    have HO := Lib.hid (ho.kept (grownBy_putObj' W D (.deferred none)) (fun r e => by injection e with e; subst e; exact ⟨_, hK, rfl⟩))
    have HE := Lib.hid (hlow.trans (belowK_b (w := w4) (n₀ := w.heap.size) (by omega) W D _ (.deferred none) hD hK rfl rfl))
    clear hlow hv ho hq hps8 hst hsp hz3 hz4
    gi_wp2
    refine ⟨by simp, .inl ⟨_, _, rfl, run_takeDeferred hK, ?_⟩⟩
    exact ⟨_, results_tmp rfl _ _ _, by exact ⟨_, qs, rfl, HO.out, HQ.out, HE.out⟩⟩
theorem rangeM_any [LT Gb] {v : Value} {L : List Pr} (A A' : Option Addr) (c c' : Nat) (k to : By) (most : Int) (w : World) (h : TreeV w v L) (hk : SlB w w.heap.size A k) (ht : SlB w w.heap.size A' to) :
    Calls Try.prog 23 #[v, .slice A k.length c, .slice A' to.length c', .int .i64 most] w fun e w' => ∃ v' qs, e = .returned v' ∧ OwnQ w' w.heap.size v' qs ∧ qs.map (·.1) = rgL to most (fromL k L) ∧ Below w.heap.size w w' :=
  (callsIn_wide (n := 9)).1 (range_in 9 (Nat.le_of_ble_eq_true rfl) A A' c c' k to most w h hk ht)
end Go.Proofs.Ytohpilamoglhcaa
