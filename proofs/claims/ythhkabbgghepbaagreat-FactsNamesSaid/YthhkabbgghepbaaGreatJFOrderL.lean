/-
  THE LAW FactsOrder: its walk.
-/
import Derived.Test.YthhkabbgghepbaaGreatJFAlive
import Derived.Test.YthhkabbgghepbaaGreatJDSlArgs
namespace Go.Proofs.YthhkabbgghepbaaGreat
open Go.RowKit Go.Shelf

theorem same_sorts {l m : List Dat} (h : ∀ x, x ∈ m ↔ x ∈ l) : sortsD 1 m = sortsD 1 l := by
  have e1 : isO 1 = true := rfl
  have key : ∀ k : List Dat, Ups (ordD 1) (sortsD 1 k) ∧ ∀ z, z ∈ sortsD 1 k ↔ z ∈ k.filter (hasD 1) := fun k => by
    have h2 := putsG_from (ordD_is e1) (k.filter (hasD 1)) [] (by unfold Ups; exact List.Pairwise.nil)
    unfold sortsD
    rw [if_pos e1]
    unfold putsG
    exact ⟨h2.1, fun z => by rw [h2.2 z]; simp⟩
  refine ups_uniq (ordD_is e1) _ _ (key m).1 (key l).1 fun x => ?_
  rw [(key m).2 x, (key l).2 x, List.mem_filter, List.mem_filter, h x]
theorem same_may {l m : List Dat} (h : ∀ x, x ∈ m ↔ x ∈ l) : notMay m = notMay l := by
  unfold notMay
  rw [Bool.eq_iff_iff, List.any_eq_true, List.any_eq_true]
  exact exists_congr fun x => and_congr (h x) Iff.rfl
/-- what Fold answers of any datoms -/
def FoldU (l : List Dat) (W : World) (v : Value) (ec : Int) : Prop := (ec = 60 ∧ v = .slice none 0 0 ∧ (notMay l = true ∨ ¬ Goes (sortsD 1 l))) ∨ (ec = 0 ∧ notMay l = false ∧ Goes (sortsD 1 l) ∧ ∃ fs, FoldsTo (runsL triD (sortsD 1 l)) fs ∧ FV W v fs ∧ (∀ f ∈ fs, f.l.length ≤ 3000) ∧ fs.length ≤ 3000)
theorem fold_u (A : Option Addr) (c : Nat) (l : List Dat) (w : World) (hs : SlD w w.heap.size A l) (hl : l.length * 80 ≤ 140737488355328) (hz : ∀ d ∈ l, d.s.size ≤ maxLen) (hk : ∀ d ∈ l, SpOk (spD d)) (hf : notMay l = false → l.length ≤ 5000 ∧ (sortsD 1 l).length ≤ 3000) :
    Calls Tryz.prog 10 #[.slice A l.length c] w fun e w' => ∃ v ec, e = .returned (.tuple #[v, .int .i64 ec]) ∧ FoldU l w' v ec ∧ Below w.heap.size w w' := by
  cases hm : notMay l with
  | true =>
    refine ((callsIn_wide (n := 9)).1 (fold_bad 9 (Nat.le_of_ble_eq_true rfl) A c l w hs hl hz hm)).mono ?_
    rintro e w' ⟨rfl, hb⟩
    exact ⟨_, 60, rfl, .inl ⟨rfl, rfl, .inl hm⟩, hb⟩
  | false =>
    obtain ⟨f1, f2⟩ := hf hm
    refine (fold_any A c l w hs f1 f2 hz hk hm).mono ?_
    rintro e w' ⟨⟨v, ec, rfl, ⟨rfl, hg, fs, h1, h2, h3⟩ | ⟨rfl, rfl, hg⟩⟩, hb⟩
    · refine ⟨v, 0, rfl, .inr ⟨rfl, hm, hg, fs, h1, h2, h3.1, ?_⟩, hb⟩
      have := foldsTo_len h1
      have := runs_few triD (sortsD 1 l)
      omega
    · exact ⟨_, 60, rfl, .inl ⟨rfl, rfl, .inr hg⟩, hb⟩
theorem foldU_same {l m : List Dat} (h : ∀ x, x ∈ m ↔ x ∈ l) {W W' : World} {v v' : Value} {ec ec' : Int} (h1 : FoldU l W v ec) (h2 : FoldU m W' v' ec') : ec = ec' ∧ ((v = .slice none 0 0 ∧ v' = .slice none 0 0) ∨ ∃ fs, FV W v fs ∧ FV W' v' fs ∧ (∀ f ∈ fs, f.l.length ≤ 3000) ∧ fs.length ≤ 3000) := by
  unfold FoldU at h2
  rw [same_may h, same_sorts h] at h2
  rcases h1 with ⟨rfl, rfl, a⟩ | ⟨rfl, a, b, fs, f1, f2, f3, f4⟩ <;> rcases h2 with ⟨rfl, rfl, a'⟩ | ⟨rfl, a', b', fs', f1', f2', f3', f4'⟩
  · exact ⟨rfl, .inl ⟨rfl, rfl⟩⟩
  · rcases a with a | a
    · rw [a] at a'; cases a'
    · exact absurd b' a
  · rcases a' with a' | a'
    · rw [a] at a'; cases a'
    · exact absurd b a'
  · have e := foldsTo_one f1 f1'
    subst e
    exact ⟨rfl, .inr ⟨fs, f2, f2', f3, f4⟩⟩
theorem great_u (A : Option Addr) (c : Nat) (l : List Dat) (w : World) (hs : SlD w w.heap.size A l) (hl : l.length * 80 ≤ 140737488355328) :
    Calls Tryz.prog 9 #[.slice A l.length c] w fun e w' => ((e = .returned (.int .i64 0) ∧ (notMay l = false → l.length ≤ 200)) ∨ e = .returned (.int .i64 1)) ∧ w = w' := by
  cases hm : notMay l with
  | true =>
    refine (greatD_any A c l w w.heap.size hs (by omega)).mono ?_
    rintro e w' ⟨h | h, rfl⟩
    · exact ⟨.inl ⟨h, fun h => by cases h⟩, rfl⟩
    · exact ⟨.inr h, rfl⟩
  | false =>
    refine (greatD_few A c l w w.heap.size hs (by omega) (fun d hd => ?_)).mono ?_
    · unfold notMay at hm
      rw [List.any_eq_false] at hm
      exact mayB_size (mayD_val (by simpa using hm d hd))
    · rintro e w' ⟨⟨h, h2⟩ | h, rfl⟩
      · exact ⟨.inl ⟨h, fun _ => h2⟩, rfl⟩
      · exact ⟨.inr h, rfl⟩

theorem turn_by (b : Int) (N : Nat) (h : 0 < N) (h2 : N ≤ 2000000000000) : ∃ n : Nat, n < N ∧ (wrap64 (b.tmod (N : Int) + (N : Int))).tmod (N : Int) = (n : Int) := by
  have h3 := Int.tmod_lt_of_pos b (show (0 : Int) < (N : Int) by omega)
  have h4 := Int.lt_tmod_of_pos b (show (0 : Int) < (N : Int) by omega)
  obtain ⟨x, hx⟩ : ∃ x, b.tmod (N : Int) = x := ⟨_, rfl⟩
  rw [hx] at h3 h4 ⊢
  rw [IntWalk.wrap64_in _ (by omega), Int.tmod_eq_emod_of_nonneg (by omega)]
  refine ⟨((x + (N : Int)) % (N : Int)).toNat, ?_, ?_⟩
  · have := Int.emod_lt_of_pos (x + (N : Int)) (show (0 : Int) < (N : Int) by omega)
    have := Int.emod_nonneg (x + (N : Int)) (show (N : Int) ≠ 0 by omega)
    omega
  · have := Int.emod_nonneg (x + (N : Int)) (show (N : Int) ≠ 0 by omega)
    omega
theorem turn_at (g n N : Nat) (h2 : N ≤ 2000000000000) (hg : g < N) (hn : n < N) : (wrap64 ((g : Int) + (n : Int))).tmod (N : Int) = (((g + n) % N : Nat) : Int) := by
  rw [IntWalk.wrap64_in _ (by omega), Int.tmod_eq_emod_of_nonneg (by omega)]
  simp [Int.natCast_emod]
/-- every row is met once the turned list is through -/
theorem turn_all {l ms : List Dat} {n : Nat} (hn : n < l.length) (h : ∀ t, t < l.length → ∀ x, l[(t + n) % l.length]? = some x → x ∈ ms) : ∀ x ∈ l, x ∈ ms := fun x hx => by
  obtain ⟨p, hp, rfl⟩ := List.mem_iff_getElem.1 hx
  refine h ((p + (l.length - n)) % l.length) (Nat.mod_lt _ (by omega)) _ ?_
  have e : ((p + (l.length - n)) % l.length + n) % l.length = p := by
    rw [Nat.mod_add_mod, show p + (l.length - n) + n = p + l.length by omega, Nat.add_mod_right, Nat.mod_eq_of_lt hp]
  rw [e]
  exact List.getElem?_eq_getElem hp
set_option maxRecDepth 100000 in
set_option maxHeartbeats 4000000 in
theorem fOrder_any (by_ : Int) (A : Option Addr) (c : Nat) (l : List Dat) (w : World) (hs : SlD w w.heap.size A l) (hl : l.length * 80 ≤ 140737488351232) (hz : ∀ d ∈ l, d.s.size ≤ maxLen) (hk : ∀ d ∈ l, SpOk (spD d)) :
    Calls Tryz.prog 6 #[.slice A l.length c, .int .i64 by_] w fun e w' => e = .returned (.bool true) ∧ Below w.heap.size w w' := by
  obtain ⟨i0, hi, hz0, hz1, hz2⟩ := info_parts infoD
  have hmx : 2000000000000 ≤ maxLen := by decide
  have HS := Lib.hid hs
  have HZ := Lib.hid hz
  have HK := Lib.hid hk
  clear hs hz hk
  go_enter Tryz.func6, Tryz.ntmps6
  go_wp2_with fail
  refine (fAlive_any _).mono ?_
  rintro e w1 ⟨rfl, hb1⟩
  have HB1 := Lib.hid hb1
  have HS1 := Lib.hid ((HS.out.next hb1 (Nat.le_refl _)).more hb1.size)
  clear hb1
  have HGR := Lib.hid (great_u A c l w1 HS1.out (by omega))
  go_wp2_with fail
  refine HGR.out.mono ?_
  rintro e w' ⟨⟨rfl, hfew⟩ | rfl, rfl⟩
  · have HFEW := Lib.hid hfew
    clear hfew
    by_cases hp : l.length = 0
    · have hlz : ((l.length : Int) == 0) = true := by rw [hp]; rfl
      go_wp2
      go_ret
      exact ⟨rfl, HB1.out⟩
    · have hlz : ((l.length : Int) == 0) = false := by rw [beq_eq_false_iff_ne]; omega
      have hlne : (l.length : Int) ≠ 0 := by omega
      have hlpos : 0 < l.length := by omega
      clear hp
      obtain ⟨n, hnl, hne⟩ := turn_by by_ l.length hlpos (by omega)
      go_wp2_with fail
      go_loopg [7, 8] l.length (fun g x y wr => ∃ ms : List Dat, OwnD wr w1.heap.size x ms ∧ Hid (ms.length + g = l.length) ∧ y = .int .i64 ((g : Int) - 1) ∧ g ≤ l.length ∧ Hid (Below w1.heap.size w1 wr) ∧ Hid (∀ x ∈ ms, x ∈ l) ∧ Hid (∀ t, g ≤ t → t < l.length → ∀ x, l[(t + n) % l.length]? = some x → x ∈ ms))
      case atStart => exact ⟨[], World.ownsRow_nil _ _ _ _, (show ([] : List Dat).length + l.length = l.length by simp), rfl, Nat.le_refl _, Below.refl _ _, (fun x h => by cases h), (fun t h1 h2 => by omega)⟩
      case round =>
        obtain ⟨ms, ho, HLN, hy, hgl, HB, HM1, HM2⟩ := hrel
        have HO := Lib.hid ho
        have hbz := HB.out.size
        cases gk with
        | succ g =>
          rw [show (((g + 1 : Nat) : Int) - 1) = (g : Int) by omega] at hy
          subst hy
          have hgN : g < l.length := by omega
          have hge : (0 : Int) ≤ (g : Int) := by omega
          have hta := turn_at g n l.length (by omega) hgN hnl
          have hpl : (g + n) % l.length < l.length := Nat.mod_lt _ hlpos
          obtain ⟨b, o, rfl, hbl, hp⟩ := ((HS1.out.next HB.out (Nat.le_refl _))).at_ hpl
          obtain ⟨d, hd⟩ : ∃ d, l[(g + n) % l.length] = d := ⟨_, rfl⟩
          rw [hd] at hp
          have HD : Hid (l[(g + n) % l.length]? = some d) := by show _ = _; rw [List.getElem?_eq_getElem hpl, hd]
          have c0 := hp.c0
          have c1 := hp.c1
          have c2 := hp.c2
          have c3 := hp.c3
          have c4 := hp.c4
          have c5 := hp.c5
          have c6 := hp.c6
          have c7 := hp.c7
          have c8 := hp.c8
          have hin : 0 ≤ ((g : Int) + (n : Int)) % (l.length : Int) ∧ ((g : Int) + (n : Int)) % (l.length : Int) < (l.length : Int) := ⟨Int.emod_nonneg _ (by omega), Int.emod_lt_of_pos _ (by omega)⟩
          clear ho hp hd
          go_wp2_with (at_builtin; go_loud (refine wpList_append_own _ rfl _ _ 22 rfl w1.heap.size 46 i0 (.agg #[.int .i64 0, .int .i64 0, .int .i64 0, .int .i64 0, .string ⟨#[]⟩, .int .i64 0, .bool false, .int .i64 0, .int .i64 0]) 9 80 Tryz.underlying22 hi hz0 hz1 hz2 rfl (by decide) _ _ _ rfl (World.ownsRow.alloc HO.out _) ⟨wr.heap.size, 0, none⟩ 1 1 (cellsD d) rfl rfl (fun j u h => cell_lit wr #[.int .i64 d.e, .int .i64 d.a, .int .i64 d.k, .int .i64 d.m, .string d.s, .int .i64 d.t, .bool d.add, .int .i64 d.fr, .int .i64 d.til] 46 j u h) (cellsD_one d) (by have := HLN.out; omega) (by have := HLN.out; omega) (by simp; omega) ?_); intro v' w8 hown' hgrow _)
          have HO8 : Hid (OwnD w8 w1.heap.size v' (ms ++ [d])) := ownD_of (b := [d]) (by simpa using hown')
          have HB8 := Lib.hid (HB.out.trans (((Below.refl w1.heap.size wr).alloc hbz _).trans (below_ownD (OwnD.next HO.out ((Below.refl _ wr).alloc (Nat.le_refl _) _)) hgrow (by simp; omega))))
          clear hown' hgrow
          go_roundg g
          case measure => omega
          case rel =>
            refine ⟨ms ++ [d], HO8.out, by have := HLN.out; show _ = _; rw [List.length_append, List.length_singleton]; omega, by go_num, by omega, HB8.out, fun x hx => ?_, fun t h1 h2 x hx => ?_⟩
            · rcases List.mem_append.1 hx with hx | hx
              · exact HM1.out x hx
              · rw [List.mem_singleton.1 hx]; exact List.mem_of_getElem? HD.out
            · by_cases htg : t = g
              · subst htg
                rw [HD.out] at hx
                cases hx
                simp
              · exact List.mem_append_left _ (HM2.out t (by omega) h2 x hx)
        | zero =>
          subst hy
          have hji : ¬ (0 : Int) ≤ ((0 : Nat) : Int) - 1 := by decide
          obtain ⟨b, o, rfl, hbl, hp⟩ := ((HS1.out.next HB.out (Nat.le_refl _))).at_ hnl
          obtain ⟨d, hd⟩ : ∃ d, l[n] = d := ⟨_, rfl⟩
          rw [hd] at hp
          have HD : Hid (l[n]? = some d) := by show _ = _; rw [List.getElem?_eq_getElem hnl, hd]
          have c0 := hp.c0
          have c1 := hp.c1
          have c2 := hp.c2
          have c3 := hp.c3
          have c4 := hp.c4
          have c5 := hp.c5
          have c6 := hp.c6
          have c7 := hp.c7
          have c8 := hp.c8
          have hnn : (n : Int) < (l.length : Int) := by omega
          have hmem : ∀ x, x ∈ ms ++ [d] ↔ x ∈ l := fun x => ⟨fun hx => by
            rcases List.mem_append.1 hx with hx | hx
            · exact HM1.out x hx
            · rw [List.mem_singleton.1 hx]; exact List.mem_of_getElem? HD.out, fun hx => List.mem_append_left _ (turn_all hnl (fun t ht y hy => HM2.out t (Nat.zero_le _) ht y hy) x hx)⟩
          have HMM := Lib.hid hmem
          have HML : Hid ((ms ++ [d]).length = l.length + 1) := by have := HLN.out; show _ = _; rw [List.length_append, List.length_singleton]; omega
          clear ho hp hd hmem
          go_wp2_with (at_builtin; go_loud (refine wpList_append_own _ rfl _ _ 22 rfl w1.heap.size 46 i0 (.agg #[.int .i64 0, .int .i64 0, .int .i64 0, .int .i64 0, .string ⟨#[]⟩, .int .i64 0, .bool false, .int .i64 0, .int .i64 0]) 9 80 Tryz.underlying22 hi hz0 hz1 hz2 rfl (by decide) _ _ _ rfl (World.ownsRow.alloc HO.out _) ⟨wr.heap.size, 0, none⟩ 1 1 (cellsD d) rfl rfl (fun j u h => cell_lit wr #[.int .i64 d.e, .int .i64 d.a, .int .i64 d.k, .int .i64 d.m, .string d.s, .int .i64 d.t, .bool d.add, .int .i64 d.fr, .int .i64 d.til] 46 j u h) (cellsD_one d) (by have := HLN.out; omega) (by have := HLN.out; omega) (by simp; omega) ?_); intro v' w8 hown' hgrow _; have HO8 : Hid (OwnD w8 w1.heap.size v' (ms ++ [d])) := ownD_of (b := [d]) (by simpa using hown'); have HB8 := Lib.hid (HB.out.trans (((Below.refl w1.heap.size wr).alloc hbz _).trans (below_ownD (OwnD.next HO.out ((Below.refl _ wr).alloc (Nat.le_refl _) _)) hgrow (by simp; omega)))); clear hown' hgrow; (obtain ⟨A2, c2, rfl, hs2, _⟩ := OwnD.form HO8.out); have HS2 := Lib.hid hs2; clear hs2)
          have HSl8 := Lib.hid ((HS1.out.next HB8.out (Nat.le_refl _)).more HB8.out.size)
          have HFA := Lib.hid (fold_u (some ⟨b, o, none⟩) c l w8 HSl8.out (by omega) HZ.out HK.out (fun h => ⟨by have := HFEW.out h; omega, by have := HFEW.out h; have := sorts_few l; omega⟩))
          refine HFA.out.mono ?_
          rintro e w9 ⟨v1, ec1, rfl, hf1, hb9⟩
          have HF1 := Lib.hid hf1
          have HB9 := Lib.hid hb9
          clear hf1 hb9
          have HFB := Lib.hid (fold_u A2 c2 (ms ++ [d]) w9 ((HS2.out.next HB9.out (Nat.le_refl _)).more HB9.out.size) (by have := HML.out; omega) (fun x hx => HZ.out x ((HMM.out x).1 hx)) (fun x hx => HK.out x ((HMM.out x).1 hx)) (fun h => by
            rw [same_may HMM.out] at h
            have h1 := HFEW.out h
            have h2 := sorts_few l
            rw [same_sorts HMM.out]
            have h3 := HML.out
            exact ⟨by omega, by omega⟩))
          have hfb := HFB.out
          rw [List.length_append, List.length_singleton] at hfb
          have HFC := Lib.hid hfb
          clear hfb
          go_wp2_with fail
          refine HFC.out.mono ?_
          rintro e w10 ⟨v2, ec2, rfl, hf2, hb10⟩
          obtain ⟨rfl, hsame⟩ := foldU_same HMM.out HF1.out hf2
          have HBA := Lib.hid (HB1.out.trans ((HB8.out.mono HB1.out.size).trans ((HB9.out.mono (Nat.le_trans HB1.out.size HB8.out.size)).trans (hb10.mono (Nat.le_trans (Nat.le_trans HB1.out.size HB8.out.size) HB9.out.size)))))
          rcases hsame with ⟨rfl, rfl⟩ | ⟨fs, q1, q2, q3, q4⟩
          · have HSM := Lib.hid (sameF_any none none 0 0 [] w10 ⟨none, 0, rfl, (fun h => absurd rfl h), Nat.le_refl _, Nat.zero_le _⟩ ⟨none, 0, rfl, (fun h => absurd rfl h), Nat.le_refl _, Nat.zero_le _⟩ (by decide) (fun f hf => by cases hf))
            clear hf2 hb10
            go_wp2_with fail
            refine HSM.out.mono ?_
            rintro e w11 ⟨rfl, hb11⟩
            have HBB := Lib.hid (HBA.out.trans (hb11.mono HBA.out.size))
            clear hb11
            go_wp2
            go_ret
            exact ⟨rfl, HBB.out⟩
          · have q1' := q1.next hb10
            obtain ⟨A5, c5, rfl, _⟩ := id q1'
            obtain ⟨A6, c6, rfl, _⟩ := id q2
            have HSM := Lib.hid (sameF_any A5 A6 c5 c6 fs w10 q1' q2 (by omega) (fun f hf => by have := q3 f hf; omega))
            clear hf2 hb10 q1 q2 q1' q3
            go_wp2_with fail
            refine HSM.out.mono ?_
            rintro e w11 ⟨rfl, hb11⟩
            have HBB := Lib.hid (HBA.out.trans (hb11.mono HBA.out.size))
            clear hb11
            go_wp2
            go_ret
            exact ⟨rfl, HBB.out⟩
  · go_wp2
    go_ret
    exact ⟨rfl, HB1.out⟩
end Go.Proofs.YthhkabbgghepbaaGreat
