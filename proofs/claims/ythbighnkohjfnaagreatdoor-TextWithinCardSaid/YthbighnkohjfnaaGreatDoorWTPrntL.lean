/-
  CONTRACT: appendNodes at every depth; Print.
-/
import Derived.Test.YthbighnkohjfnaaGreatDoorWTPrntN
import Derived.Lib.BufferRead
namespace Go.Proofs.YthbighnkohjfnaaGreatDoor
open Go.RowKit

theorem prR_snoc : ∀ (a : List Nd) (x : Nd), prR (a ++ [x]) = prR a ++ 32 :: prN x
  | [], x => by simp [prR]
  | y :: a, x => by rw [List.cons_append, prR, prR_snoc a x, prR]; simp
theorem prL_snoc (a : List Nd) (x : Nd) : prL (a ++ [x]) = prL a ++ (if a.length = 0 then prN x else 32 :: prN x) := by
  cases a with
  | nil => simp [prL, prR]
  | cons y a => rw [List.cons_append, prL, prR_snoc, prL]; simp
theorem prL_take {l : List Nd} {j : Nat} (h : j < l.length) : prL (l.take (j + 1)) = prL (l.take j) ++ (if j = 0 then prN l[j] else 32 :: prN l[j]) := by
  rw [List.take_succ_eq_append_getElem h, prL_snoc]
  have : (l.take j).length = j := by rw [List.length_take]; omega
  rw [this]
theorem prL_up (a : List Nd) : ∀ (b : List Nd), (prL a).length ≤ (prL (a ++ b)).length
  | [] => by rw [List.append_nil]; exact Nat.le_refl _
  | x :: b => by
    have h1 := prL_up (a ++ [x]) b
    rw [List.append_assoc, List.singleton_append] at h1
    have h2 := congrArg List.length (prL_snoc a x)
    rw [List.length_append] at h2
    omega
theorem prL_le (l : List Nd) (j : Nat) : (prL (l.take j)).length ≤ (prL l).length := by
  have h := prL_up (l.take j) (l.drop j)
  rwa [List.take_append_drop] at h
theorem pvNs_mem : ∀ {l : List Nd}, pvNs l → ∀ x ∈ l, pvN x
  | [], _, _, hx => by cases hx
  | y :: l, h, x, hx => by
    rw [pvNs] at h
    rcases List.mem_cons.1 hx with rfl | hx
    · exact h.1
    · exact pvNs_mem h.2 x hx
theorem wpList_app_one {ops : Array Oper} {rest : List Oper} {o : Oper} {a : Act} {w : World} {Q : Exit → Act → World → Prop} (hgd : o.guard = none) (sl x : Operand) (ho : o.op = .call { callee := .builtin .append, args := #[sl, x], argTypes := #[61, 61] })
    {lo : Nat} {v : Value} {l : List UInt8} {W0 : World} (hs : a.eval sl = v) (hb : OwB lo v l W0 w) (c : UInt8) (ci : Int) (hc : ci = (c.toNat : Int)) (hx : a.eval x = .slice (some ⟨w.heap.size, 0, none⟩) 1 1) (hlen : l.length + 1 ≤ 140737488355328)
    (h : ∀ v' w', OwB lo v' (l ++ [c]) W0 w' → wpList Tryz.prog ops Q rest (a.put o.dst v') w') : wpList Tryz.prog ops Q (o :: rest) a (w.alloc (.cells #[.int .u8 ci] 5)) := by
  subst hc
  exact wpList_app_byte hgd sl x ho hs hb c hx hlen h
set_option maxRecDepth 100000 in
set_option maxHeartbeats 1000000 in
theorem pr_one (w0 : World) (d : Nat) (htab : Tab w0) (A : Option Addr) (c : Nat) (l : List Nd) (hA : l ≠ [] → PrC w0 d) (b : Value) (l0 : List UInt8) (W : World) (B : Nat → Prop) (hs : SlN (d + 1) W B A l) (hB : ∀ g, B g → g < w0.heap.size) (hp : pvNs l) (hb0 : Below w0.heap.size w0 W) (hO : OwB w0.heap.size b l0 W W) (hlen : l0.length + (prL l).length ≤ 1000000000) :
    Calls Tryz.prog 27 #[b, .slice A l.length c] W (AppC w0.heap.size W (l0 ++ prL l)) := by
  have hl := hs.len
  have HS := Lib.hid hs
  have HBB := Lib.hid hB
  have HP := Lib.hid hp
  have HB0 := Lib.hid hb0
  have HO := Lib.hid hO
  have HLEN := Lib.hid hlen
  have HA := Lib.hid hA
  have HT := Lib.hid htab
  clear hs hB hp hb0 hO hlen hA htab
  go_enter Tryz.func27, Tryz.ntmps27
  go_wp2
  go_loopw [0, 9] (fun v i wr => ∃ j : Nat, j ≤ l.length ∧ i = .int .i64 j ∧ Hid (OwB w0.heap.size v (l0 ++ prL (l.take j)) W wr)) (fun _ i _ => l.length - (intOf i).toNat)
  case atStart => exact ⟨0, Nat.zero_le _, rfl, by show OwB _ _ _ _ _; rw [List.take_zero, prL, List.append_nil]; exact HO.out⟩
  case round =>
    obtain ⟨j, hj, rfl, HR⟩ := hrel
    by_cases h1 : j < l.length
    · have hji : (j : Int) < (l.length : Int) := by omega
      obtain ⟨ba, o, K, kc, rfl, hBa, hp, hk⟩ := (HS.out.keep fun g hg => HR.out.bel.block g (HBB.out g hg)).at_ h1
      have hts := prL_take h1
      have htl := prL_le l (j + 1)
      obtain ⟨x, hxe⟩ : ∃ p, l[j] = p := ⟨_, rfl⟩
      have hmem : x ∈ l := by rw [← hxe]; exact List.getElem_mem h1
      rw [hxe] at hp hk hts
      have c0 : wr.cell? ⟨ba, o + j * 8, none⟩ = some (.int .i64 x.k) := hp 0 (by decide)
      have c1 : wr.cell? ⟨ba, o + j * 8 + 1, none⟩ = some (.int .i64 x.vk) := hp 1 (by decide)
      have c2 : wr.cell? ⟨ba, o + j * 8 + 2, none⟩ = some (.int .i64 x.vn) := hp 2 (by decide)
      have c3 : wr.cell? ⟨ba, o + j * 8 + 3, none⟩ = some (.string x.vs) := hp 3 (by decide)
      have c4 : wr.cell? ⟨ba, o + j * 8 + 4, none⟩ = some (.string x.s) := hp 4 (by decide)
      have c5 : wr.cell? ⟨ba, o + j * 8 + 5, none⟩ = some (.slice K x.kids.length kc) := hp 5 (by decide)
      have c6 : wr.cell? ⟨ba, o + j * 8 + 6, none⟩ = some (.int .i64 x.ln) := hp 6 (by decide)
      have c7 : wr.cell? ⟨ba, o + j * 8 + 7, none⟩ = some (.int .i64 x.co) := hp 7 (by decide)
      obtain ⟨w1, hw1⟩ : ∃ w1, wr.alloc (.cells #[.int .i64 x.k, .int .i64 x.vk, .int .i64 x.vn, .string x.vs, .string x.s, .slice K x.kids.length kc, .int .i64 x.ln, .int .i64 x.co] 37) = w1 := ⟨_, rfl⟩
      have hb1 : Below wr.heap.size wr w1 := by rw [← hw1]; exact (Below.refl _ _).alloc (Nat.le_refl _) _
      have hn1 : NdB w1 wr.heap.size x.k x.vk x.vn x.vs x.s K x.kids.length kc x.ln x.co := by rw [← hw1]; exact NdB.new wr x.k x.vk x.vn x.vs x.s K x.kids.length kc x.ln x.co
      have HO1 := Lib.hid (HR.out.next hb1)
      have HN1 := Lib.hid hn1
      have HW1 := Lib.hid hw1
      have HK := Lib.hid (hk.keep (W' := w1) fun g hg => hb1.block g (Nat.lt_of_lt_of_le (HBB.out g hg) HR.out.le))
      have HAA := Lib.hid (HA.out (fun e => by rw [e] at h1; exact absurd h1 (Nat.not_lt_zero _)))
      have HPX := Lib.hid (pvNs_mem HP.out x hmem)
      have HTS := Lib.hid hts
      have HTL := Lib.hid htl
      clear hp hk hts htl hxe hmem hw1 hb1 hn1
      cases j with
      | zero =>
        have HTZ : Hid (l0 ++ prL (l.take 0) = l0 ∧ prL (l.take (0 + 1)) = prN x) := by
          show _ ∧ _
          rw [HTS.out, List.take_zero, prL, if_pos rfl, List.append_nil]
          exact ⟨rfl, rfl⟩
        rw [HTZ.out.1] at HO1
        simp only [Nat.zero_mul, Nat.add_zero] at c0 c1 c2 c3 c4 c5 c6 c7
        go_upto_region 4 with (fail)
        try rw [HW1.out]
        obtain ⟨n0, n1, n2, n3, n4, n5, n6, n7⟩ := nd_cells HN1.out
        clear c0 c1 c2 c3 c4 c5 c6 c7
        have HC := Lib.hid (appNode_any w0 d HT.out HAA.out x K kc _ l0 w1 B HK.out HBB.out HPX.out (HB0.out.trans HO1.out.bel) HO1.out.start (by have h1 := HTL.out; have h2 := HLEN.out; rw [HTZ.out.2] at h1; omega))
        unfold ndV at HC
        go_wp2_with fail
        refine HC.out.mono ?_
        rintro e w4 ⟨v4, rfl, ho4⟩
        have HO4 := Lib.hid ho4
        clear ho4 n0 n1 n2 n3 n4 n5 n6 n7 HC
        go_wp2
        go_roundw
        case rel => exact ⟨0 + 1, by omega, rfl, by show OwB _ _ _ _ _; rw [HTZ.out.2]; exact HO1.out.trans HO4.out⟩
        case measure => simp [intOf]; omega
      | succ j =>
        have hj0 : (0 : Int) < ((j + 1 : Nat) : Int) := by omega
        have HTZ : Hid (prL (l.take (j + 1 + 1)) = prL (l.take (j + 1)) ++ 32 :: prN x) := by show _ = _; rw [HTS.out, if_neg (by omega)]
        obtain ⟨L1, hL1⟩ : ∃ L, l0 ++ prL (l.take (j + 1)) = L := ⟨_, rfl⟩
        rw [hL1] at HO1
        have HL1 := Lib.hid hL1
        have HLL : Hid (L1.length + 1 + (prN x).length ≤ 1000000000) := by
          have h1 := HTL.out
          have h2 := HLEN.out
          have h3 := congrArg List.length hL1
          rw [HTZ.out] at h1
          simp only [List.length_append, List.length_cons] at h1 h3
          show _ ≤ _
          omega
        clear hL1
        go_upto_region 4 with (fail)
        try rw [HW1.out]
        clear c0 c1 c2 c3 c4 c5 c6 c7
        have HOS := Lib.hid HO1.out.start
        go_wp2_with (at_builtin; refine wpList_app_one rfl _ _ rfl rfl HOS.out 32 32 rfl rfl (by have := HLL.out; omega) ?_; intro v3 w3 ho3; have HO3 := Lib.hid ho3; clear ho3; obtain ⟨n0, n1, n2, n3, n4, n5, n6, n7⟩ := nd_cells (HO3.out.node HN1.out))
        have HC := Lib.hid (appNode_any w0 d HT.out HAA.out x K kc _ (L1 ++ [32]) w3 B (HK.out.keep fun g hg => HO3.out.bel.block g (HBB.out g hg)) HBB.out HPX.out (HB0.out.trans (HO1.out.bel.trans HO3.out.bel)) HO3.out.start (by rw [List.length_append, List.length_singleton]; have := HLL.out; omega))
        unfold ndV at HC
        refine HC.out.mono ?_
        rintro e w4 ⟨v4, rfl, ho4⟩
        have HO4 := Lib.hid ho4
        clear ho4 n0 n1 n2 n3 n4 n5 n6 n7 HC
        go_wp2
        go_roundw
        case rel =>
          refine ⟨j + 1 + 1, by omega, by go_num, ?_⟩
          show OwB _ _ _ _ _
          have h9 := HO1.out.trans (HO3.out.trans HO4.out)
          rw [List.append_assoc, ← HL1.out, List.append_assoc] at h9
          rw [HTZ.out]
          exact h9
        case measure => simp [intOf]; omega
    · have hji : ¬ (j : Int) < (l.length : Int) := by omega
      have h9 := HR.out
      rw [List.take_of_length_le (by omega)] at h9
      have H9 := Lib.hid h9
      clear h9
      go_wp2
      go_ret
      exact ⟨_, rfl, H9.out⟩
theorem pr_any (w0 : World) (htab : Tab w0) (d : Nat) : PrC w0 d := by
  induction d with
  | zero => exact fun A c l b l0 W B hs hB hp hb0 hO hlen => pr_one w0 0 htab A c l (fun h => absurd (show l = [] from hs) h) b l0 W B hs.deeper hB hp hb0 hO hlen
  | succ d ih => exact fun A c l b l0 W B hs hB hp hb0 hO hlen => pr_one w0 d htab A c l (fun _ => ih) b l0 W B hs hB hp hb0 hO hlen
end Go.Proofs.YthbighnkohjfnaaGreatDoor
