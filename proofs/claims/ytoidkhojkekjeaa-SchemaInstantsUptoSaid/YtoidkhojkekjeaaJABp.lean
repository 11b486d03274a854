import Derived.BigQuiet
import Derived.Test.YtoidkhojkekjeaaJAMayE
import Derived.Test.YtoidkhojkekjeaaJARefB
import Derived.Test.YtoidkhojkekjeaaJFMayR
import Derived.Deep.Draws
import Derived.Laws.StructEq
import Derived.Test.YtoidkhojkekjeaaJAValR
import Derived.RangeFuncBox
import Derived.Deep.Cut
/-
  CONTRACT of the document's own answer: Of (facts' attributes), given the contract of its Made.
-/
namespace Go.Proofs.Ytoidkhojkekjeaa
open Go.RowKit Go.Shelf

theorem docFrom_snoc (all : List FactP) (f : FactP) : ∀ (l : List FactP) (p : Option Int), docFrom all p (l ++ [f]) = docFrom all p l ++ (if (match l.getLast? with | some g => some g.e | none => p) = some f.e then [] else (docL f.e all).toList)
  | [], p => by
    show (if p = some f.e then [] else (docL f.e all).toList) ++ [] = [] ++ (if p = some f.e then [] else (docL f.e all).toList)
    rw [List.append_nil, List.nil_append]
  | g :: l, p => by
    show (if p = some g.e then [] else (docL g.e all).toList) ++ docFrom all (some g.e) (l ++ [f]) = ((if p = some g.e then [] else (docL g.e all).toList) ++ docFrom all (some g.e) l) ++ _
    rw [docFrom_snoc all f l (some g.e), ← List.append_assoc]
    congr 1
    cases l with
    | nil => rfl
    | cons x l =>
      rw [List.getLast?_cons_cons]
      obtain ⟨z, hz⟩ : ∃ z, (x :: l).getLast? = some z := Option.isSome_iff_exists.1 (by simp)
      rw [hz]
theorem docFrom_zero {all fs : List FactP} {f : FactP} (h : fs[0]? = some f) : docFrom all none (fs.take (0 + 1)) = docFrom all none (fs.take 0) ++ (docL f.e all).toList := by
  rw [List.take_add_one, h, Option.toList_some, docFrom_snoc, List.take_zero]
  rfl
theorem docFrom_succ {all fs : List FactP} {f g : FactP} {j : Nat} (hg : fs[j]? = some g) (h : fs[j + 1]? = some f) : docFrom all none (fs.take (j + 1 + 1)) = docFrom all none (fs.take (j + 1)) ++ (if g.e = f.e then [] else (docL f.e all).toList) := by
  have hl : (fs.take (j + 1)).getLast? = some g := by
    rw [List.take_add_one, hg, Option.toList_some, List.getLast?_append]
    rfl
  rw [List.take_add_one (i := j + 1), h, Option.toList_some, docFrom_snoc, hl]
  congr 1
  by_cases he : g.e = f.e
  · rw [if_pos he, if_pos (show (some g.e : Option Int) = some f.e by rw [he])]
  · rw [if_neg he, if_neg (show ¬ (some g.e : Option Int) = some f.e from fun h => by injection h with h; exact he h)]
/-- no name stands twice -/
def oneName (l : List Att) : Prop := (l.map (·.nm)).Nodup
instance (l : List Att) : Decidable (oneName l) := inferInstanceAs (Decidable (l.map (·.nm)).Nodup)
theorem two_no {l : List Att} {i k : Nat} {x y : Att} (hi : l[i]? = some x) (hk : l[k]? = some y) (hki : k < i) (h : x.nm = y.nm) : ¬ oneName l := fun hn => by
  obtain ⟨hi1, rfl⟩ := List.getElem?_eq_some_iff.1 hi
  obtain ⟨hk1, rfl⟩ := List.getElem?_eq_some_iff.1 hk
  have := List.pairwise_iff_getElem.1 hn k i (by simpa using hk1) (by simpa using hi1) hki
  simp at this
  exact this h.symm
theorem one_yes {l : List Att} (h : ∀ (i : Nat) (x : Att), l[i]? = some x → ∀ (k : Nat) (y : Att), k < i → l[k]? = some y → x.nm ≠ y.nm) : oneName l := by
  show (l.map (·.nm)).Pairwise _
  rw [List.pairwise_iff_getElem]
  intro k i hk hi hki
  rw [List.length_map] at hk hi
  have := h i _ (List.getElem?_eq_getElem hi) k _ hki (List.getElem?_eq_getElem hk)
  simp
  exact fun he => this he.symm
theorem flatA {l : List Att} {j i : Nat} (hi : i < 7) : (l.flatMap cellsA)[j * 7 + i]? = l[j]?.bind fun x => (cellsA x)[i]? := flatG (enc := cellsA) (k := 7) (fun _ => rfl) hi
theorem OwnA.form {W : World} {B : Nat} {v : Value} {l : List Att} (h : OwnA W B v l) : ∃ A c, v = .slice A l.length c ∧ SlA W W.heap.size A l ∧ l.length ≤ c ∧ c ≤ maxLen := by
  rcases h.2 with ⟨rfl, h0⟩ | ⟨g, cap, cur, rfl, _, hgb, h1, h2, _⟩
  · exact ⟨none, 0, by rw [h0], fun hl => absurd (List.length_eq_zero_iff.1 h0) hl, by omega, Nat.zero_le _⟩
  · refine ⟨_, _, rfl, fun _ => ⟨g, 0, rfl, (Array.getElem?_eq_some_iff.1 hgb).1, fun j p hp => ?_⟩, h1, h2⟩
    have hr : W.ownsRow B 33 7 (.slice (some ⟨g, 0, none⟩) l.length cap) l.length (l.flatMap cellsA) := h
    have hj : j < l.length := (List.getElem?_eq_some_iff.1 hp).1
    have hc : ∀ i, i < 7 → W.cell? ⟨g, j * 7 + i, none⟩ = (cellsA p)[i]? := fun i hi => by
      rw [hr.cellAt (j * 7 + i) (by omega), flatA hi, hp]; rfl
    rw [Nat.zero_add]
    exact hc
/-- the attributes of facts -/
def attsL (fs : List FactP) : List Att := builtL ++ docFrom fs none fs
def attsE (fs : List FactP) : Int := if mayFs fs then (if oneName (attsL fs) then 0 else 70) else 60
theorem docFrom_len (all : List FactP) : ∀ (l : List FactP) (p : Option Int), (docFrom all p l).length ≤ l.length
  | [], _ => Nat.le_refl _
  | f :: l, p => by
    show ((if p = some f.e then [] else (docL f.e all).toList) ++ docFrom all (some f.e) l).length ≤ l.length + 1
    rw [List.length_append]
    have := docFrom_len all l (some f.e)
    have h2 : (if p = some f.e then [] else (docL f.e all).toList).length ≤ 1 := by
      split
      · exact Nat.zero_le _
      · cases docL f.e all <;> simp
    omega
/-- what Of answers -/
def OfEnd (W : World) (B : Nat) (fs : List FactP) (v : Value) (ec : Int) : Prop := ec = attsE fs ∧ if attsE fs = 0 then OwnA W B v (attsL fs) else v = .slice none 0 0
theorem ofEnd_no {W : World} {B : Nat} {fs : List FactP} {ec : Int} (h : attsE fs = ec) (h0 : ec ≠ 0) : OfEnd W B fs (.slice none 0 0) ec := ⟨h.symm, by rw [if_neg (by rw [h]; exact h0)]⟩
theorem ofEnd_yes {W : World} {B : Nat} {fs : List FactP} {v : Value} (h : attsE fs = 0) (ho : OwnA W B v (attsL fs)) : OfEnd W B fs v 0 := ⟨h.symm, by rw [if_pos h]; exact ho⟩
set_option maxRecDepth 100000 in
set_option maxHeartbeats 8000000 in
theorem refOf_if (hMade : ∀ (A : Option Addr) (c : Nat) (fs : List FactP) (e : Int) (w : World), FVa w (.slice A fs.length c) fs → fs.length ≤ 1954687338268 → Calls Try.prog 29 #[.slice A fs.length c, .int .i64 e] w fun r w' => r = .returned (fndV (docL e fs)) ∧ Below w.heap.size w w')
    (A : Option Addr) (c : Nat) (fs : List FactP) (w : World) (hs : FVa w (.slice A fs.length c) fs) (hl : fs.length ≤ 1954687338268) (hz : ∀ f ∈ fs, f.s.size ≤ maxLen ∧ f.l.length ≤ 9223372036854775807) :
    Calls Try.prog 9 #[.slice A fs.length c] w fun r w' => (∃ v ec, r = .returned (.tuple #[v, .int .i64 ec]) ∧ OfEnd w' w.heap.size fs v ec) ∧ Below w.heap.size w w' := by
  obtain ⟨i0, hi, hz0, hz1, hz2⟩ := info_parts infoA
  have hmx : 3000000000000 ≤ maxLen := by decide
  have HM := Lib.hid (refMayF_big A c fs w hs hl hz)
  have HS := Lib.hid hs
  have HMD := Lib.hid hMade
  obtain ⟨v, hv⟩ : ∃ v, mayFs fs = v := ⟨_, rfl⟩
  rw [hv] at HM
  have HV := Lib.hid hv
  clear hs hz hv hMade
  go_enter Try.func9, Try.ntmps9
  go_wp2_with fail
  refine HM.out.mono ?_
  rintro e9 w1 ⟨rfl, hb1⟩
  have HB1 := Lib.hid hb1
  clear hb1 HM
  cases v
  · have HE : Hid (attsE fs = 60) := by show _ = _; unfold attsE; rw [HV.out]; rfl
    go_wp2
    go_ret2
    exact ⟨⟨_, _, rfl, ofEnd_no HE.out (by decide)⟩, HB1.out⟩
  · go_wp2_with fail
    refine (refBuilt_any w1).mono ?_
    rintro e9 w2 ⟨v2, rfl, ho2, hb2⟩
    have HO2 : Hid (OwnA w2 w.heap.size v2 builtL) := ⟨ho2.1, by
      rcases ho2.2 with h | ⟨g, cap, cur, h1, h2, h3⟩
      · exact .inl h
      · exact .inr ⟨g, cap, cur, h1, by have := HB1.out.size; omega, h3⟩⟩
    have HB2 := Lib.hid (HB1.out.trans (hb2.mono HB1.out.size))
    clear ho2 hb2
    go_wp2
    go_loopg [5, 6] fs.length (fun g x y wr => ∃ (j : Nat) (ps : List Att), y = .int .i64 j ∧ j + g = fs.length ∧ Hid (OwnA wr w.heap.size x ps) ∧ Hid (ps = builtL ++ docFrom fs none (fs.take j)) ∧ Hid (ps.length ≤ 7 + j) ∧ Hid (Below w.heap.size w wr))
    case atStart => exact ⟨0, builtL, rfl, by omega, HO2.out, by show _ = _; rw [List.take_zero]; exact (List.append_nil _).symm, Nat.le_refl _, HB2.out⟩
    case round =>
      obtain ⟨j, ps, rfl, hj, HO, HP, HPL, HB⟩ := hrel
      cases gk with
      | zero =>
        have hjz : ¬ ((j : Int) < (fs.length : Int)) := by omega
        have HE : Hid (ps = attsL fs) := by
          have := HP.out
          rw [List.take_of_length_le (by omega)] at this
          exact this
        have HLN : Hid (ps.length ≤ 2000000000000) := by have := HPL.out; show _ ≤ _; omega
        obtain ⟨A2, c2, rfl, hsa, _⟩ := HO.out.form
        have HSA := Lib.hid hsa
        clear hsa hj
        go_wp2
        go_loopg [9] ps.length (fun g x wq => ∃ (i q : Nat), x = .int .i64 i ∧ i + g = ps.length ∧ Hid (∀ (i1 : Nat) (x : Att), i1 < i → ps[i1]? = some x → ∀ (k : Nat) (y : Att), k < i1 → ps[k]? = some y → x.nm ≠ y.nm) ∧ wq = wr.drewN q)
        case atStart => exact ⟨0, 0, rfl, by omega, fun i1 x h => by omega, rfl⟩
        case round =>
          obtain ⟨i, q, rfl, hi9, HI, rfl⟩ := hrel
          cases gk with
          | zero =>
            have hiz : ¬ ((i : Int) < (ps.length : Int)) := by omega
            have HF : Hid (attsE fs = 0) := by
              show _ = _
              unfold attsE
              rw [HV.out, if_pos rfl, ← HE.out, if_pos (one_yes (fun i1 x hx => HI.out i1 x (by have := (List.getElem?_eq_some_iff.1 hx).1; omega) hx))]
            go_wp2
            go_ret2
            exact ⟨⟨_, _, rfl, ofEnd_yes HF.out (by rw [← HE.out]; exact HO.out.next (below_ind (Below.refl wr.heap.size wr) q))⟩, below_ind HB.out q⟩
          | succ g2 =>
            have hii : (i : Int) < (ps.length : Int) := by omega
            have hib : (i : Int) ≤ 2000000000000 := by have := HLN.out; omega
            have hin : i < ps.length := by omega
            obtain ⟨b, o, rfl, _, hp⟩ := HSA.out.at_ hin
            obtain ⟨x, hx⟩ : ∃ x, ps[i] = x := ⟨_, rfl⟩
            rw [hx] at hp
            have HXI : Hid (ps[i]? = some x) := by show _ = _; rw [List.getElem?_eq_getElem hin, hx]
            have x1 : wr.cell? ⟨b, o + i * 7 + 1, none⟩ = some (.string x.nm) := hp 1 (by decide)
            clear hp hx
            go_wp2
            go_loopg [10] i (fun g3 y wq => ∃ (k q2 : Nat), y = .int .i64 k ∧ k + g3 = i ∧ Hid (∀ (k1 : Nat) (y : Att), k1 < k → ps[k1]? = some y → x.nm ≠ y.nm) ∧ wq = wr.drewN q2)
            case atStart => exact ⟨0, q, rfl, by omega, fun k1 y h => by omega, rfl⟩
            case round =>
              obtain ⟨k, q2, rfl, hk9, HK, rfl⟩ := hrel
              cases gk with
              | zero =>
                have hkz : ¬ ((k : Int) < (i : Int)) := by omega
                have hib2 : (i : Int) ≤ 2000000000000 := by have := HLN.out; omega
                have HI2 : Hid (∀ (i1 : Nat) (x : Att), i1 < i + 1 → ps[i1]? = some x → ∀ (k : Nat) (y : Att), k < i1 → ps[k]? = some y → x.nm ≠ y.nm) := fun i1 x1 h hx1 k1 y1 hk1 hy1 => by
                  by_cases hlt : i1 < i
                  · exact HI.out i1 x1 hlt hx1 k1 y1 hk1 hy1
                  · obtain rfl : i1 = i := by omega
                    rw [HXI.out] at hx1
                    cases hx1
                    exact HK.out k1 y1 (by omega) hy1
                go_wp2
                go_roundg g2
                case measure => omega
                case rel => exact ⟨i + 1, q2, by go_num, by omega, HI2, rfl⟩
              | succ g3 =>
                have hki : (k : Int) < (i : Int) := by omega
                have hkb : (k : Int) ≤ 2000000000000 := by omega
                have hkn : k < ps.length := by omega
                have hkl : (k : Int) < (ps.length : Int) := by omega
                obtain ⟨b5, o5, hA5, _, hp⟩ := HSA.out.at_ hkn
                injection hA5 with hA5
                injection hA5 with e1 e2
                subst e1
                subst e2
                obtain ⟨y, hy⟩ : ∃ y, ps[k] = y := ⟨_, rfl⟩
                rw [hy] at hp
                have HYK : Hid (ps[k]? = some y) := by show _ = _; rw [List.getElem?_eq_getElem hkn, hy]
                have y1 : wr.cell? ⟨b, o + k * 7 + 1, none⟩ = some (.string y.nm) := hp 1 (by decide)
                clear hp hy
                by_cases he : x.nm = y.nm
                · have q0 : (x.nm.toList == y.nm.toList) = true := by rw [he, beq_self_eq_true]
                  have HF : Hid (attsE fs = 70) := by
                    show _ = _
                    unfold attsE
                    rw [HV.out, if_pos rfl, ← HE.out, if_neg (two_no HXI.out HYK.out (by omega) he)]
                  clear he
                  go_wp2
                  go_quiet (fail)
                  go_wp2
                  go_ret2
                  exact ⟨⟨_, _, rfl, ofEnd_no HF.out (by decide)⟩, below_ind (below_ind HB.out q2) _⟩
                · have q0 : (x.nm.toList == y.nm.toList) = false := by
                    rw [beq_eq_false_iff_ne, ByteArray.toList_eq, ByteArray.toList_eq]
                    exact fun h => he (ByteArray.ext (Array.toList_inj.1 h))
                  have HK2 : Hid (∀ (k1 : Nat) (y : Att), k1 < k + 1 → ps[k1]? = some y → x.nm ≠ y.nm) := fun k1 y1 h hy1 => by
                    by_cases hlt : k1 < k
                    · exact HK.out k1 y1 hlt hy1
                    · obtain rfl : k1 = k := by omega
                      rw [HYK.out] at hy1
                      cases hy1
                      exact he
                  clear he
                  go_wp2
                  go_quiet (fail)
                  go_wp2
                  go_roundg g3
                  case measure => omega
                  case rel => exact ⟨k + 1, _, by go_num, by omega, HK2, rfl⟩
      | succ g =>
        have hjz : (j : Int) < (fs.length : Int) := by omega
        have hjn : j < fs.length := by omega
        cases j with
        | zero =>
          obtain ⟨b, o, sv, rfl, hlt, hc, _⟩ := fva_at HS.out hjn
          obtain ⟨f, hf⟩ : ∃ f, fs[0] = f := ⟨_, rfl⟩
          rw [hf] at hc
          have HN := Lib.hid (docFrom_zero (all := fs) (fs := fs) (f := f) (by rw [List.getElem?_eq_getElem hjn, hf]))
          have y0 := (hc.next HB.out hlt).1
          simp only [Nat.zero_mul, Nat.add_zero] at y0
          clear hf hc
          go_wp2
          go_quiet (fail)
          have HFN : Hid (FVa (wr.drewN nq) (.slice (some ⟨b, o, none⟩) fs.length c) fs) := HS.out.next (below_ind HB.out nq)
          have HBN : Hid (Below w.heap.size w (wr.drewN nq)) := below_ind HB.out nq
          have HON := Lib.hid (HO.out.next (below_ind (Below.refl wr.heap.size wr) nq))
          obtain ⟨d, hd⟩ : ∃ d, docL f.e fs = d := ⟨_, rfl⟩
          have HC := Lib.hid (HMD.out (some ⟨b, o, none⟩) c fs f.e (wr.drewN nq) HFN.out hl)
          rw [hd] at HC
          have HN2 : Hid (docFrom fs none (fs.take (0 + 1)) = docFrom fs none (fs.take (0)) ++ d.toList) := by show _ = _; rw [HN.out, hd]
          clear hd
          go_wp2_with fail
          refine HC.out.mono ?_
          rintro e9 w3 ⟨rfl, hb3⟩
          clear HC
          have HB3 := Lib.hid (HBN.out.trans (hb3.mono HBN.out.size))
          have HO3 := Lib.hid (HON.out.next hb3)
          clear hb3 y0
          cases d
          · have hbl := (Below.refl w3.heap.size w3).alloc (Nat.le_refl _) (.cells #[.int .i64 0, .string ⟨#[]⟩, .int .i64 0, .bool false, .int .i64 0, .bool false, .bool false] 33)
            have HO4 := Lib.hid (HO3.out.next hbl)
            have HB4 := Lib.hid (HB3.out.trans (hbl.mono HB3.out.size))
            clear hbl
            simp only [fndV, attV, zA, Option.getD_none, Option.isSome_none]
            go_wp2
            go_roundg g
            case measure => omega
            case rel => exact ⟨0 + 1, ps, by go_num, by omega, HO4.out, by show _ = _; rw [HN2.out, Option.toList_none, List.append_nil]; exact HP.out, by have := HPL.out; show _ ≤ _; omega, HB4.out⟩
          · rename_i y
            have hbl := (Below.refl w3.heap.size w3).alloc (Nat.le_refl _) (.cells #[.int .i64 y.id, .string y.nm, .int .i64 y.ty, .bool y.many, .int .i64 y.un, .bool y.part, .bool y.ix] 33)
            have hbl2 := hbl.alloc hbl.size (.cells #[.int .i64 y.id, .string y.nm, .int .i64 y.ty, .bool y.many, .int .i64 y.un, .bool y.part, .bool y.ix] 33)
            have HO4 := Lib.hid (HO3.out.next hbl2)
            have HB4 := Lib.hid (HB3.out.trans (hbl2.mono HB3.out.size))
            have hlc := litA (w3.alloc (.cells #[.int .i64 y.id, .string y.nm, .int .i64 y.ty, .bool y.many, .int .i64 y.un, .bool y.part, .bool y.ix] 33)) y
            rw [show (w3.alloc (.cells #[.int .i64 y.id, .string y.nm, .int .i64 y.ty, .bool y.many, .int .i64 y.un, .bool y.part, .bool y.ix] 33)).heap.size = w3.heap.size + 1 by simp] at hlc
            have HLC := Lib.hid hlc
            clear hbl hbl2 hlc
            simp only [fndV, attV, Option.getD_some, Option.isSome_some]
            go_wp2_with (at_builtin; refine wpList_append_own _ rfl _ _ 24 rfl w.heap.size 33 i0 (.agg #[.int .i64 0, .string ⟨#[]⟩, .int .i64 0, .bool false, .int .i64 0, .bool false, .bool false]) 7 56 Try.underlying24 hi hz0 hz1 hz2 rfl (by decide) _ _ _ rfl HO4.out ⟨w3.heap.size + 1, 0, none⟩ 1 1 (cellsA y) rfl rfl HLC.out (cellsA_one _) (by have := HPL.out; omega) (by have := HPL.out; omega) HB4.out.size ?_; intro v1 w8 hown hgrow hnil; have HB8 : Hid (Below w.heap.size _ w8) := (Below.refl _ _).grown hgrow HB4.out.size (fun k hk => (World.ownsRow.lt HO4.out k hk).1); have HO8 : Hid (OwnA w8 w.heap.size v1 (ps ++ [y])) := (by show World.ownsRow _ _ _ _ _ _ _; rw [List.length_append, List.flatMap_append]; simpa using hown); have HBE := Lib.hid (HB4.out.trans HB8.out); clear hown hgrow hnil)
            go_roundg g
            case measure => omega
            case rel => exact ⟨0 + 1, ps ++ [y], by go_num, by omega, HO8.out, by show _ = _; rw [HN2.out, HP.out, Option.toList_some, List.append_assoc], by rw [List.length_append]; simp only [List.length_singleton]; have := HPL.out; show _ ≤ _; omega, HBE.out⟩
        | succ k =>
          obtain ⟨b, o, sv, rfl, hlt, hc, _⟩ := fva_at HS.out hjn
          obtain ⟨b5, o5, sv5, hA5, hlt5, hc5, _⟩ := fva_at HS.out (show k < fs.length by omega)
          injection hA5 with hA5
          injection hA5 with e1 e2
          subst e1
          subst e2
          obtain ⟨f, hf⟩ : ∃ f, fs[k + 1] = f := ⟨_, rfl⟩
          obtain ⟨f5, hf5⟩ : ∃ f, fs[k] = f := ⟨_, rfl⟩
          rw [hf] at hc
          rw [hf5] at hc5
          have HNN := Lib.hid (docFrom_succ (all := fs) (fs := fs) (f := f) (g := f5) (j := k) (by rw [List.getElem?_eq_getElem (show k < fs.length by omega), hf5]) (by rw [List.getElem?_eq_getElem hjn, hf]))
          have y0 := (hc.next HB.out hlt).1
          have z0 := (hc5.next HB.out hlt5).1
          clear hf hc hf5 hc5
          have hkl : (k : Int) < (fs.length : Int) := by omega
          have hkm : (k : Int) ≤ 2000000000000 := by omega
          have hg0 : decide (0 < k + 1) = true := decide_eq_true (by omega)
          have hg1 : (0 : Int) < (k : Int) + 1 := by omega
          have hg2 : decide ((0 : Int) < (k : Int) + 1) = true := decide_eq_true hg1
          by_cases he : f5.e = f.e
          · have q0 : (f.e == f5.e) = true := by rw [he, beq_self_eq_true]
            have HN : Hid (docFrom fs none (fs.take (k + 1 + 1)) = docFrom fs none (fs.take (k + 1))) := by show _ = _; rw [HNN.out, if_pos he, List.append_nil]
            clear he
            go_wp2
            go_quiet (fail)
            go_wp2
            go_roundg g
            case measure => omega
            case rel => exact ⟨k + 1 + 1, ps, by go_num, by omega, HO.out.next (below_ind (Below.refl wr.heap.size wr) _), by show _ = _; rw [HN.out]; exact HP.out, by have := HPL.out; show _ ≤ _; omega, below_ind HB.out _⟩
          · have q0 : (f.e == f5.e) = false := beq_eq_false_iff_ne.2 (fun h => he h.symm)
            have HN : Hid (docFrom fs none (fs.take (k + 1 + 1)) = docFrom fs none (fs.take (k + 1)) ++ (docL f.e fs).toList) := by show _ = _; rw [HNN.out, if_neg he]
            clear he
            go_wp2
            go_quiet (fail)
            have HFN : Hid (FVa (wr.drewN nq) (.slice (some ⟨b, o, none⟩) fs.length c) fs) := HS.out.next (below_ind HB.out nq)
            have HBN : Hid (Below w.heap.size w (wr.drewN nq)) := below_ind HB.out nq
            have HON := Lib.hid (HO.out.next (below_ind (Below.refl wr.heap.size wr) nq))
            obtain ⟨d, hd⟩ : ∃ d, docL f.e fs = d := ⟨_, rfl⟩
            have HC := Lib.hid (HMD.out (some ⟨b, o, none⟩) c fs f.e (wr.drewN nq) HFN.out hl)
            rw [hd] at HC
            have HN2 : Hid (docFrom fs none (fs.take (k + 1 + 1)) = docFrom fs none (fs.take (k + 1)) ++ d.toList) := by show _ = _; rw [HN.out, hd]
            clear hd
            go_wp2_with fail
            refine HC.out.mono ?_
            rintro e9 w3 ⟨rfl, hb3⟩
            clear HC
            have HB3 := Lib.hid (HBN.out.trans (hb3.mono HBN.out.size))
            have HO3 := Lib.hid (HON.out.next hb3)
            clear hb3 y0 z0
            cases d
            · have hbl := (Below.refl w3.heap.size w3).alloc (Nat.le_refl _) (.cells #[.int .i64 0, .string ⟨#[]⟩, .int .i64 0, .bool false, .int .i64 0, .bool false, .bool false] 33)
              have HO4 := Lib.hid (HO3.out.next hbl)
              have HB4 := Lib.hid (HB3.out.trans (hbl.mono HB3.out.size))
              clear hbl
              simp only [fndV, attV, zA, Option.getD_none, Option.isSome_none]
              go_wp2
              go_roundg g
              case measure => omega
              case rel => exact ⟨k + 1 + 1, ps, by go_num, by omega, HO4.out, by show _ = _; rw [HN2.out, Option.toList_none, List.append_nil]; exact HP.out, by have := HPL.out; show _ ≤ _; omega, HB4.out⟩
            · rename_i y
              have hbl := (Below.refl w3.heap.size w3).alloc (Nat.le_refl _) (.cells #[.int .i64 y.id, .string y.nm, .int .i64 y.ty, .bool y.many, .int .i64 y.un, .bool y.part, .bool y.ix] 33)
              have hbl2 := hbl.alloc hbl.size (.cells #[.int .i64 y.id, .string y.nm, .int .i64 y.ty, .bool y.many, .int .i64 y.un, .bool y.part, .bool y.ix] 33)
              have HO4 := Lib.hid (HO3.out.next hbl2)
              have HB4 := Lib.hid (HB3.out.trans (hbl2.mono HB3.out.size))
              have hlc := litA (w3.alloc (.cells #[.int .i64 y.id, .string y.nm, .int .i64 y.ty, .bool y.many, .int .i64 y.un, .bool y.part, .bool y.ix] 33)) y
              rw [show (w3.alloc (.cells #[.int .i64 y.id, .string y.nm, .int .i64 y.ty, .bool y.many, .int .i64 y.un, .bool y.part, .bool y.ix] 33)).heap.size = w3.heap.size + 1 by simp] at hlc
              have HLC := Lib.hid hlc
              clear hbl hbl2 hlc
              simp only [fndV, attV, Option.getD_some, Option.isSome_some]
              go_wp2_with (at_builtin; refine wpList_append_own _ rfl _ _ 24 rfl w.heap.size 33 i0 (.agg #[.int .i64 0, .string ⟨#[]⟩, .int .i64 0, .bool false, .int .i64 0, .bool false, .bool false]) 7 56 Try.underlying24 hi hz0 hz1 hz2 rfl (by decide) _ _ _ rfl HO4.out ⟨w3.heap.size + 1, 0, none⟩ 1 1 (cellsA y) rfl rfl HLC.out (cellsA_one _) (by have := HPL.out; omega) (by have := HPL.out; omega) HB4.out.size ?_; intro v1 w8 hown hgrow hnil; have HB8 : Hid (Below w.heap.size _ w8) := (Below.refl _ _).grown hgrow HB4.out.size (fun k hk => (World.ownsRow.lt HO4.out k hk).1); have HO8 : Hid (OwnA w8 w.heap.size v1 (ps ++ [y])) := (by show World.ownsRow _ _ _ _ _ _ _; rw [List.length_append, List.flatMap_append]; simpa using hown); have HBE := Lib.hid (HB4.out.trans HB8.out); clear hown hgrow hnil)
              go_roundg g
              case measure => omega
              case rel => exact ⟨k + 1 + 1, ps ++ [y], by go_num, by omega, HO8.out, by show _ = _; rw [HN2.out, HP.out, Option.toList_some, List.append_assoc], by rw [List.length_append]; simp only [List.length_singleton]; have := HPL.out; show _ ≤ _; omega, HBE.out⟩
end Go.Proofs.Ytoidkhojkekjeaa

/-
  CONTRACT: the document's Same, of two lists of attributes that are equal; == at two that are equal.
-/
namespace Go.Proofs.Ytoidkhojkekjeaa
open Go.RowKit

theorem neAtt (a : Att) (w : World) : (binOp .neq 33 (attV a) (attV a)).run Try.prog w = .ok (.bool false) w := by
  have u3 := Try.underlying3
  have u2 := Try.underlying2
  have u9 := Try.underlying9
  have u4 := Try.underlying4
  have a3 := Try.isAgg3
  have a2 := Try.isAgg2
  have a9 := Try.isAgg9
  have a4 := Try.isAgg4
  have hS : Try.prog.underlying 33 = some (.struct (Try.prog.fieldsOf 33)) := by kernel_rfl
  have hp : Try.prog.stoodInHeld 33 = false := by kernel_rfl
  unfold attV
  rw [run_neq_struct, show (10000 : Nat) = 9999 + 1 from rfl, run_equalIn_agg w 9999 33 _ _ hS hp]
  simp only [Program.fieldsOf, Try.underlying33]
  go_simp

set_option maxRecDepth 100000 in
set_option maxHeartbeats 2000000 in
theorem sameAt_any (A A' : Option Addr) (c c' : Nat) (l : List Att) (w : World) (B : Nat) (hs : SlA w B A l) (hs' : SlA w B A' l) (hl : l.length ≤ 2000000000000) :
    Calls Try.prog 10 #[.slice A l.length c, .slice A' l.length c'] w fun e w' => e = .returned (.bool true) ∧ ∃ n, w' = w.drewN n := by
  go_enter Try.func10, Try.ntmps10
  go_wp2
  go_loopw [5] (fun i wr => ∃ j n : Nat, j ≤ l.length ∧ i = .int .i64 j ∧ wr = w.drewN n) (fun i _ => l.length - (intOf i).toNat)
  case atStart => exact ⟨0, 0, by omega, rfl, rfl⟩
  case round =>
    obtain ⟨j, n, hj, rfl, rfl⟩ := hrel
    by_cases h1 : j < l.length
    · have hji : (j : Int) < (l.length : Int) := by omega
      obtain ⟨b, o, rfl, _, hp⟩ := hs.at_ h1
      obtain ⟨b', o', rfl, _, hp'⟩ := hs'.at_ h1
      obtain ⟨x, hpe⟩ : ∃ p, l[j] = p := ⟨_, rfl⟩
      rw [hpe] at hp hp'
      have c0 := hp.c0
      have c1 := hp.c1
      have c2 := hp.c2
      have c3 := hp.c3
      have c4 := hp.c4
      have c5 := hp.c5
      have c6 := hp.c6
      have d0 := hp'.c0
      have d1 := hp'.c1
      have d2 := hp'.c2
      have d3 := hp'.c3
      have d4 := hp'.c4
      have d5 := hp'.c5
      have d6 := hp'.c6
      have hq := fun w => neAtt x w
      unfold attV at hq
      clear hp hp' hpe hs hs'
      go_wp2
      go_quiet (fail)
      go_wp2
      go_roundw
      case rel => exact ⟨j + 1, _, by omega, by go_num, rfl⟩
      case measure => simp [intOf]; omega
    · have hji : ¬ (j : Int) < (l.length : Int) := by omega
      go_wp2
      go_ret
      exact ⟨rfl, n, rfl⟩
end Go.Proofs.Ytoidkhojkekjeaa

/-
  CONTRACTS: the program's ByName and ByID: a closure, slices.IndexFunc, first.
-/
namespace Go.Proofs.Ytoidkhojkekjeaa
open Go.RowKit

set_option maxHeartbeats 1000000 in
theorem closByName_any (y : Att) (s : ByteArray) (Bt : Nat) (w : World) (v : Bool) (hv : nmP s y = v) (hb : w.cell? ⟨Bt, 0, none⟩ = some (.string s)) (hlt : Bt < w.heap.size) :
    Calls Try.prog 31 #[.agg #[.int .i64 y.id, .string y.nm, .int .i64 y.ty, .bool y.many, .int .i64 y.un, .bool y.part, .bool y.ix], .pointer (some ⟨Bt, 0, none⟩)] w fun e w' => e = .returned (.bool v) ∧ Below w.heap.size w w' := by
  have b0 : (w.alloc (.cells #[.int .i64 y.id, .string y.nm, .int .i64 y.ty, .bool y.many, .int .i64 y.un, .bool y.part, .bool y.ix] 33)).cell? ⟨Bt, 0, none⟩ = some (.string s) := (World.cell?_alloc_lt _ _ ⟨Bt, 0, none⟩ hlt).trans hb
  subst hv
  clear hb
  by_cases e0 : y.nm = s
  · have q0 : (y.nm.toList == s.toList) = true := by rw [e0, beq_self_eq_true]
    have HE : Hid (nmP s y = true) := decide_eq_true e0
    clear e0
    go_enter Try.func31, Try.ntmps31
    go_wp2
    go_ret
    exact ⟨by rw [HE.out]; rfl, (Below.refl _ _).alloc (Nat.le_refl _) _⟩
  · have q0 : (y.nm.toList == s.toList) = false := by
          rw [beq_eq_false_iff_ne, ByteArray.toList_eq, ByteArray.toList_eq]
          exact fun h => e0 (ByteArray.ext (Array.toList_inj.1 h))
    have HE : Hid (nmP s y = false) := decide_eq_false e0
    clear e0
    go_enter Try.func31, Try.ntmps31
    go_wp2
    go_ret
    exact ⟨by rw [HE.out]; rfl, (Below.refl _ _).alloc (Nat.le_refl _) _⟩

set_option maxRecDepth 100000 in
set_option maxHeartbeats 1000000 in
theorem indexByName_any (A : Option Addr) (c : Nat) (l : List Att) (s : ByteArray) (Bt : Nat) (w : World) (hs : SlA w w.heap.size A l) (hl : l.length ≤ 2000000000000) (hb : w.cell? ⟨Bt, 0, none⟩ = some (.string s)) (hlt : Bt < w.heap.size) :
    Calls Try.prog 44 #[.slice A l.length c, .func (.func 31) #[] #[.pointer (some ⟨Bt, 0, none⟩)]] w fun e w' => ((l.find? (nmP s) = none ∧ e = .returned (.int .i64 (-1))) ∨ ∃ (j : Nat) (y : Att), e = .returned (.int .i64 j) ∧ l[j]? = some y ∧ l.find? (nmP s) = some y) ∧ Below w.heap.size w w' := by
  have HS := Lib.hid hs
  have HT := Lib.hid hb
  clear hs hb
  go_enter Try.func44, Try.ntmps44
  go_wp2
  go_loopg [5, 8] l.length (fun g _ y wr => ∃ j : Nat, y = .int .i64 j ∧ j + g = l.length ∧ Hid ((l.drop j).find? (nmP s) = l.find? (nmP s)) ∧ Hid (Below w.heap.size w wr))
  case atStart => exact ⟨0, rfl, by omega, rfl, Below.refl _ _⟩
  case round =>
    obtain ⟨j, rfl, hj, HN, HB⟩ := hrel
    cases gk with
    | zero =>
      have hjz : ¬ ((j : Int) < (l.length : Int)) := by omega
      have HE : Hid (l.find? (nmP s) = none) := by
        show _ = _
        rw [← HN.out, List.drop_eq_nil_of_le (by omega)]
        rfl
      go_wp2
      go_ret
      exact ⟨.inl ⟨by first | exact HE.out | simpa using HE.out, rfl⟩, HB.out⟩
    | succ g =>
      have hjz : (j : Int) < (l.length : Int) := by omega
      have hjn : j < l.length := by omega
      obtain ⟨b, o, rfl, _, hp⟩ := (HS.out.next HB.out (Nat.le_refl _)).at_ hjn
      have hd := find_step (p := nmP s) hjn
      have hg := List.getElem?_eq_getElem hjn
      obtain ⟨y, hy⟩ : ∃ y, l[j] = y := ⟨_, rfl⟩
      rw [hy] at hp hd hg
      rw [HN.out] at hd
      have HD := Lib.hid hd
      have HG := Lib.hid hg
      have y0 := hp.c0
      have y1 := hp.c1
      have y2 := hp.c2
      have y3 := hp.c3
      have y4 := hp.c4
      have y5 := hp.c5
      have y6 := hp.c6
      have hbz := HB.out.size
      have HBT := Lib.hid ((HB.out.cell (p := ⟨Bt, 0, none⟩) hlt).trans HT.out)
      clear hp hy hd hg
      cases hv : nmP s y
      · have HW := Lib.hid (fun X h1 h2 => closByName_any y s Bt X false hv h1 h2)
        have HN2 : Hid ((l.drop (j + 1)).find? (nmP s) = l.find? (nmP s)) := by
          show _ = _
          rw [HD.out, hv]
          rfl
        clear hv
        go_wp2_with fail
        refine (HW.out _ HBT.out (by omega)).mono ?_
        rintro e w9 ⟨rfl, hb9⟩
        have HB9 := Lib.hid (HB.out.trans (hb9.mono hbz))
        clear hb9 y0 y1 y2 y3 y4 y5 y6
        go_wp2
        go_roundg g
        case measure => omega
        case rel => exact ⟨j + 1, by go_num, by omega, HN2.out, HB9.out⟩
      · have HW := Lib.hid (fun X h1 h2 => closByName_any y s Bt X true hv h1 h2)
        have HE : Hid (l.find? (nmP s) = some y) := by show _ = _; rw [HD.out, hv]; rfl
        clear hv
        go_wp2_with fail
        refine (HW.out _ HBT.out (by omega)).mono ?_
        rintro e w9 ⟨rfl, hb9⟩
        have HB9 := Lib.hid (HB.out.trans (hb9.mono hbz))
        clear hb9 y0 y1 y2 y3 y4 y5 y6
        go_wp2
        go_ret
        exact ⟨.inr ⟨j, y, rfl, HG.out, HE.out⟩, HB9.out⟩

set_option maxRecDepth 100000 in
set_option maxHeartbeats 1000000 in
theorem firstByName_any (A : Option Addr) (c : Nat) (l : List Att) (s : ByteArray) (Bt : Nat) (w : World) (hs : SlA w w.heap.size A l) (hl : l.length ≤ 2000000000000) (hb : w.cell? ⟨Bt, 0, none⟩ = some (.string s)) (hlt : Bt < w.heap.size) :
    Calls Try.prog 30 #[.slice A l.length c, .func (.func 31) #[] #[.pointer (some ⟨Bt, 0, none⟩)]] w fun e w' => e = .returned (fndV (l.find? (nmP s))) ∧ Below w.heap.size w w' := by
  obtain ⟨w0, hw0⟩ : ∃ w0, w.alloc (.cells #[.int .i64 0, .string ⟨#[]⟩, .int .i64 0, .bool false, .int .i64 0, .bool false, .bool false] 33) = w0 := ⟨_, rfl⟩
  have hb0 : Below w.heap.size w w0 := by rw [← hw0]; exact (Below.refl _ _).alloc (Nat.le_refl _) _
  have hx0 : w0.heap[w.heap.size]? = some (.cells #[.int .i64 0, .string ⟨#[]⟩, .int .i64 0, .bool false, .int .i64 0, .bool false, .bool false] 33) := by rw [← hw0]; exact heap_alloc_new w _
  have hz0 : w0.heap.size = w.heap.size + 1 := by rw [← hw0]; simp
  have HI := Lib.hid (indexByName_any A c l s Bt w0 ((hs.next hb0 (Nat.le_refl _)).more (by omega)) hl ((hb0.cell (p := ⟨Bt, 0, none⟩) hlt).trans hb) (by omega))
  have HS := Lib.hid (hs.next hb0 (Nat.le_refl _))
  have HB0 := Lib.hid hb0
  have HX0 := Lib.hid hx0
  clear hs hb hb0 hx0
  go_enter Try.func30, Try.ntmps30
  go_upto_region 1 with (fail)
  try rw [hw0]
  clear hw0
  go_wp2_with fail
  refine HI.out.mono ?_
  rintro e w1 ⟨hf, hb1⟩
  have HB1 := Lib.hid (HB0.out.trans (hb1.mono HB0.out.size))
  have HX1 := Lib.hid ((hb1.block w.heap.size (by omega)).trans HX0.out)
  have HS1 := Lib.hid (HS.out.next hb1 HB0.out.size)
  clear hb1 HI
  rcases hf with ⟨hf, rfl⟩ | ⟨j, y, rfl, hj, hf⟩
  · have HE := Lib.hid hf
    clear hf
    have HXB : Hid (BxA w1 w.heap.size zA) := HX1.out
    have x0 := HXB.out.cell 0
    have x1 := HXB.out.cell 1
    have x2 := HXB.out.cell 2
    have x3 := HXB.out.cell 3
    have x4 := HXB.out.cell 4
    have x5 := HXB.out.cell 5
    have x6 := HXB.out.cell 6
    have f0 := HXB.out.fz 0
    have f1 := HXB.out.fz 1
    have f2 := HXB.out.fz 2
    have f3 := HXB.out.fz 3
    have f4 := HXB.out.fz 4
    have f5 := HXB.out.fz 5
    have f6 := HXB.out.fz 6
    have HQ := Lib.hid (HXB.out.set7 zA)
    have HBQ := Lib.hid (HB1.out.trans (below_set7 (W := w1) (B := w.heap.size) (b := w.heap.size) (Nat.le_refl _) (.int .i64 zA.id) (.string zA.nm) (.int .i64 zA.ty) (.bool zA.many) (.int .i64 zA.un) (.bool zA.part) (.bool zA.ix)))
    go_wp2
    have c0 := HQ.out.cell 0
    have c1 := HQ.out.cell 1
    have c2 := HQ.out.cell 2
    have c3 := HQ.out.cell 3
    have c4 := HQ.out.cell 4
    have c5 := HQ.out.cell 5
    have c6 := HQ.out.cell 6
    simp only [zA] at c0 c1 c2 c3 c4 c5 c6
    clear x0 x1 x2 x3 x4 x5 x6 f0 f1 f2 f3 f4 f5 f6
    refine bodyPost_ret (v := .tuple #[.agg #[.int .i64 0, .string ⟨#[]⟩, .int .i64 0, .bool false, .int .i64 0, .bool false, .bool false], .bool false]) ?_ rfl ⟨by rw [HE.out]; rfl, HBQ.out⟩
    rw [results_cell_tmp rfl]
    go_simp
  · have HE := Lib.hid hf
    have hjn : j < l.length := (List.getElem?_eq_some_iff.1 hj).1
    have hy : l[j] = y := (List.getElem?_eq_some_iff.1 hj).2
    have hji : (j : Int) < (l.length : Int) := by omega
    have hj0 : decide ((0 : Int) ≤ j) = true := decide_eq_true (by omega)
    obtain ⟨b, o, rfl, hlt2, hp⟩ := HS1.out.at_ hjn
    rw [hy] at hp
    have y0 := hp.c0
    have y1 := hp.c1
    have y2 := hp.c2
    have y3 := hp.c3
    have y4 := hp.c4
    have y5 := hp.c5
    have y6 := hp.c6
    clear hp hy hf hj
    have HXB : Hid (BxA w1 w.heap.size zA) := HX1.out
    have x0 := HXB.out.cell 0
    have x1 := HXB.out.cell 1
    have x2 := HXB.out.cell 2
    have x3 := HXB.out.cell 3
    have x4 := HXB.out.cell 4
    have x5 := HXB.out.cell 5
    have x6 := HXB.out.cell 6
    have f0 := HXB.out.fz 0
    have f1 := HXB.out.fz 1
    have f2 := HXB.out.fz 2
    have f3 := HXB.out.fz 3
    have f4 := HXB.out.fz 4
    have f5 := HXB.out.fz 5
    have f6 := HXB.out.fz 6
    have HQ := Lib.hid (HXB.out.set7 y)
    have HBQ := Lib.hid (HB1.out.trans (below_set7 (W := w1) (B := w.heap.size) (b := w.heap.size) (Nat.le_refl _) (.int .i64 y.id) (.string y.nm) (.int .i64 y.ty) (.bool y.many) (.int .i64 y.un) (.bool y.part) (.bool y.ix)))
    go_wp2
    have c0 := HQ.out.cell 0
    have c1 := HQ.out.cell 1
    have c2 := HQ.out.cell 2
    have c3 := HQ.out.cell 3
    have c4 := HQ.out.cell 4
    have c5 := HQ.out.cell 5
    have c6 := HQ.out.cell 6
    clear x0 x1 x2 x3 x4 x5 x6 f0 f1 f2 f3 f4 f5 f6
    refine bodyPost_ret (v := .tuple #[.agg #[.int .i64 y.id, .string y.nm, .int .i64 y.ty, .bool y.many, .int .i64 y.un, .bool y.part, .bool y.ix], .bool true]) ?_ rfl ⟨by rw [HE.out]; rfl, HBQ.out⟩
    rw [results_cell_tmp rfl]
    go_simp

set_option maxRecDepth 100000 in
set_option maxHeartbeats 1000000 in
theorem byName_any (A : Option Addr) (c : Nat) (l : List Att) (s : ByteArray) (w : World) (hs : SlA w w.heap.size A l) (hl : l.length ≤ 2000000000000) :
    Calls Try.prog 13 #[.slice A l.length c, .string s] w fun e w' => e = .returned (fndV (l.find? (nmP s))) ∧ Below w.heap.size w w' := by
  obtain ⟨w0, hw0⟩ : ∃ w0, (w.alloc (.cells #[.string s] 9)).alloc (.cells #[.int .i64 0, .string ⟨#[]⟩, .int .i64 0, .bool false, .int .i64 0, .bool false, .bool false] 33) = w0 := ⟨_, rfl⟩
  have hb0 : Below w.heap.size w w0 := by rw [← hw0]; exact ((Below.refl _ _).alloc (Nat.le_refl _) _).alloc (by simp) _
  have hx0 : w0.heap[w.heap.size + 1]? = some (.cells #[.int .i64 0, .string ⟨#[]⟩, .int .i64 0, .bool false, .int .i64 0, .bool false, .bool false] 33) := by rw [← hw0]; exact heap_alloc2_new w _ _
  have hs0 : w0.cell? ⟨w.heap.size, 0, none⟩ = some (.string s) := by
    rw [← hw0]
    exact (World.cell?_alloc_lt _ _ ⟨w.heap.size, 0, none⟩ (by simp)).trans (by have h := heap_alloc_new w (.cells #[.string s] 9); unfold World.cell?; rw [h]; rfl)
  have hz0 : w0.heap.size = w.heap.size + 2 := by rw [← hw0]; simp
  have HI := Lib.hid (firstByName_any A c l s w.heap.size w0 ((hs.next hb0 (Nat.le_refl _)).more (by omega)) hl hs0 (by omega))
  have HB0 := Lib.hid hb0
  have HX0 := Lib.hid hx0
  clear hs hs0 hb0 hx0
  go_enter Try.func13, Try.ntmps13
  go_upto_region 1 with (fail)
  try rw [hw0]
  clear hw0
  go_wp2_with fail
  refine HI.out.mono ?_
  rintro e w1 ⟨rfl, hb1⟩
  have HB1 := Lib.hid (HB0.out.trans (hb1.mono HB0.out.size))
  have HXB : Hid (BxA w1 (w.heap.size + 1) zA) := (hb1.block (w.heap.size + 1) (by omega)).trans HX0.out
  clear hb1 HI
  obtain ⟨o, ho⟩ : ∃ o, l.find? (nmP s) = o := ⟨_, rfl⟩
  obtain ⟨q, hq⟩ : ∃ q, o.getD zA = q := ⟨_, rfl⟩
  have HV : Hid (fndV (l.find? (nmP s)) = .tuple #[.agg #[.int .i64 q.id, .string q.nm, .int .i64 q.ty, .bool q.many, .int .i64 q.un, .bool q.part, .bool q.ix], .bool o.isSome]) := by
    show _ = _
    rw [ho, ← hq]
    rfl
  clear hq ho
  rw [HV.out]
  have x0 := HXB.out.cell 0
  have x1 := HXB.out.cell 1
  have x2 := HXB.out.cell 2
  have x3 := HXB.out.cell 3
  have x4 := HXB.out.cell 4
  have x5 := HXB.out.cell 5
  have x6 := HXB.out.cell 6
  have f0 := HXB.out.fz 0
  have f1 := HXB.out.fz 1
  have f2 := HXB.out.fz 2
  have f3 := HXB.out.fz 3
  have f4 := HXB.out.fz 4
  have f5 := HXB.out.fz 5
  have f6 := HXB.out.fz 6
  have HQ := Lib.hid (HXB.out.set7 q)
  have HBQ := Lib.hid (HB1.out.trans (below_set7 (W := w1) (B := w.heap.size) (b := w.heap.size + 1) (Nat.le_succ _) (.int .i64 q.id) (.string q.nm) (.int .i64 q.ty) (.bool q.many) (.int .i64 q.un) (.bool q.part) (.bool q.ix)))
  go_wp2
  have c0 := HQ.out.cell 0
  have c1 := HQ.out.cell 1
  have c2 := HQ.out.cell 2
  have c3 := HQ.out.cell 3
  have c4 := HQ.out.cell 4
  have c5 := HQ.out.cell 5
  have c6 := HQ.out.cell 6
  clear x0 x1 x2 x3 x4 x5 x6 f0 f1 f2 f3 f4 f5 f6
  refine bodyPost_ret (v := .tuple #[.agg #[.int .i64 q.id, .string q.nm, .int .i64 q.ty, .bool q.many, .int .i64 q.un, .bool q.part, .bool q.ix], .bool o.isSome]) ?_ rfl ⟨by rw [HV.out], HBQ.out⟩
  rw [results_cell_tmp rfl]
  go_simp

set_option maxHeartbeats 1000000 in
theorem closByID_any (y : Att) (s : Int) (Bt : Nat) (w : World) (v : Bool) (hv : idP s y = v) (hb : w.cell? ⟨Bt, 0, none⟩ = some (.int .i64 s)) (hlt : Bt < w.heap.size) :
    Calls Try.prog 32 #[.agg #[.int .i64 y.id, .string y.nm, .int .i64 y.ty, .bool y.many, .int .i64 y.un, .bool y.part, .bool y.ix], .pointer (some ⟨Bt, 0, none⟩)] w fun e w' => e = .returned (.bool v) ∧ Below w.heap.size w w' := by
  have b0 : (w.alloc (.cells #[.int .i64 y.id, .string y.nm, .int .i64 y.ty, .bool y.many, .int .i64 y.un, .bool y.part, .bool y.ix] 33)).cell? ⟨Bt, 0, none⟩ = some (.int .i64 s) := (World.cell?_alloc_lt _ _ ⟨Bt, 0, none⟩ hlt).trans hb
  subst hv
  clear hb
  by_cases e0 : y.id = s
  · have q0 : (y.id == s) = true := by rw [e0, beq_self_eq_true]
    have HE : Hid (idP s y = true) := decide_eq_true e0
    clear e0
    go_enter Try.func32, Try.ntmps32
    go_wp2
    go_ret
    exact ⟨by rw [HE.out]; rfl, (Below.refl _ _).alloc (Nat.le_refl _) _⟩
  · have q0 : (y.id == s) = false := beq_eq_false_iff_ne.2 e0
    have HE : Hid (idP s y = false) := decide_eq_false e0
    clear e0
    go_enter Try.func32, Try.ntmps32
    go_wp2
    go_ret
    exact ⟨by rw [HE.out]; rfl, (Below.refl _ _).alloc (Nat.le_refl _) _⟩

set_option maxRecDepth 100000 in
set_option maxHeartbeats 1000000 in
theorem indexByID_any (A : Option Addr) (c : Nat) (l : List Att) (s : Int) (Bt : Nat) (w : World) (hs : SlA w w.heap.size A l) (hl : l.length ≤ 2000000000000) (hb : w.cell? ⟨Bt, 0, none⟩ = some (.int .i64 s)) (hlt : Bt < w.heap.size) :
    Calls Try.prog 44 #[.slice A l.length c, .func (.func 32) #[] #[.pointer (some ⟨Bt, 0, none⟩)]] w fun e w' => ((l.find? (idP s) = none ∧ e = .returned (.int .i64 (-1))) ∨ ∃ (j : Nat) (y : Att), e = .returned (.int .i64 j) ∧ l[j]? = some y ∧ l.find? (idP s) = some y) ∧ Below w.heap.size w w' := by
  have HS := Lib.hid hs
  have HT := Lib.hid hb
  clear hs hb
  go_enter Try.func44, Try.ntmps44
  go_wp2
  go_loopg [5, 8] l.length (fun g _ y wr => ∃ j : Nat, y = .int .i64 j ∧ j + g = l.length ∧ Hid ((l.drop j).find? (idP s) = l.find? (idP s)) ∧ Hid (Below w.heap.size w wr))
  case atStart => exact ⟨0, rfl, by omega, rfl, Below.refl _ _⟩
  case round =>
    obtain ⟨j, rfl, hj, HN, HB⟩ := hrel
    cases gk with
    | zero =>
      have hjz : ¬ ((j : Int) < (l.length : Int)) := by omega
      have HE : Hid (l.find? (idP s) = none) := by
        show _ = _
        rw [← HN.out, List.drop_eq_nil_of_le (by omega)]
        rfl
      go_wp2
      go_ret
      exact ⟨.inl ⟨by first | exact HE.out | simpa using HE.out, rfl⟩, HB.out⟩
    | succ g =>
      have hjz : (j : Int) < (l.length : Int) := by omega
      have hjn : j < l.length := by omega
      obtain ⟨b, o, rfl, _, hp⟩ := (HS.out.next HB.out (Nat.le_refl _)).at_ hjn
      have hd := find_step (p := idP s) hjn
      have hg := List.getElem?_eq_getElem hjn
      obtain ⟨y, hy⟩ : ∃ y, l[j] = y := ⟨_, rfl⟩
      rw [hy] at hp hd hg
      rw [HN.out] at hd
      have HD := Lib.hid hd
      have HG := Lib.hid hg
      have y0 := hp.c0
      have y1 := hp.c1
      have y2 := hp.c2
      have y3 := hp.c3
      have y4 := hp.c4
      have y5 := hp.c5
      have y6 := hp.c6
      have hbz := HB.out.size
      have HBT := Lib.hid ((HB.out.cell (p := ⟨Bt, 0, none⟩) hlt).trans HT.out)
      clear hp hy hd hg
      cases hv : idP s y
      · have HW := Lib.hid (fun X h1 h2 => closByID_any y s Bt X false hv h1 h2)
        have HN2 : Hid ((l.drop (j + 1)).find? (idP s) = l.find? (idP s)) := by
          show _ = _
          rw [HD.out, hv]
          rfl
        clear hv
        go_wp2_with fail
        refine (HW.out _ HBT.out (by omega)).mono ?_
        rintro e w9 ⟨rfl, hb9⟩
        have HB9 := Lib.hid (HB.out.trans (hb9.mono hbz))
        clear hb9 y0 y1 y2 y3 y4 y5 y6
        go_wp2
        go_roundg g
        case measure => omega
        case rel => exact ⟨j + 1, by go_num, by omega, HN2.out, HB9.out⟩
      · have HW := Lib.hid (fun X h1 h2 => closByID_any y s Bt X true hv h1 h2)
        have HE : Hid (l.find? (idP s) = some y) := by show _ = _; rw [HD.out, hv]; rfl
        clear hv
        go_wp2_with fail
        refine (HW.out _ HBT.out (by omega)).mono ?_
        rintro e w9 ⟨rfl, hb9⟩
        have HB9 := Lib.hid (HB.out.trans (hb9.mono hbz))
        clear hb9 y0 y1 y2 y3 y4 y5 y6
        go_wp2
        go_ret
        exact ⟨.inr ⟨j, y, rfl, HG.out, HE.out⟩, HB9.out⟩

set_option maxRecDepth 100000 in
set_option maxHeartbeats 1000000 in
theorem firstByID_any (A : Option Addr) (c : Nat) (l : List Att) (s : Int) (Bt : Nat) (w : World) (hs : SlA w w.heap.size A l) (hl : l.length ≤ 2000000000000) (hb : w.cell? ⟨Bt, 0, none⟩ = some (.int .i64 s)) (hlt : Bt < w.heap.size) :
    Calls Try.prog 30 #[.slice A l.length c, .func (.func 32) #[] #[.pointer (some ⟨Bt, 0, none⟩)]] w fun e w' => e = .returned (fndV (l.find? (idP s))) ∧ Below w.heap.size w w' := by
  obtain ⟨w0, hw0⟩ : ∃ w0, w.alloc (.cells #[.int .i64 0, .string ⟨#[]⟩, .int .i64 0, .bool false, .int .i64 0, .bool false, .bool false] 33) = w0 := ⟨_, rfl⟩
  have hb0 : Below w.heap.size w w0 := by rw [← hw0]; exact (Below.refl _ _).alloc (Nat.le_refl _) _
  have hx0 : w0.heap[w.heap.size]? = some (.cells #[.int .i64 0, .string ⟨#[]⟩, .int .i64 0, .bool false, .int .i64 0, .bool false, .bool false] 33) := by rw [← hw0]; exact heap_alloc_new w _
  have hz0 : w0.heap.size = w.heap.size + 1 := by rw [← hw0]; simp
  have HI := Lib.hid (indexByID_any A c l s Bt w0 ((hs.next hb0 (Nat.le_refl _)).more (by omega)) hl ((hb0.cell (p := ⟨Bt, 0, none⟩) hlt).trans hb) (by omega))
  have HS := Lib.hid (hs.next hb0 (Nat.le_refl _))
  have HB0 := Lib.hid hb0
  have HX0 := Lib.hid hx0
  clear hs hb hb0 hx0
  go_enter Try.func30, Try.ntmps30
  go_upto_region 1 with (fail)
  try rw [hw0]
  clear hw0
  go_wp2_with fail
  refine HI.out.mono ?_
  rintro e w1 ⟨hf, hb1⟩
  have HB1 := Lib.hid (HB0.out.trans (hb1.mono HB0.out.size))
  have HX1 := Lib.hid ((hb1.block w.heap.size (by omega)).trans HX0.out)
  have HS1 := Lib.hid (HS.out.next hb1 HB0.out.size)
  clear hb1 HI
  rcases hf with ⟨hf, rfl⟩ | ⟨j, y, rfl, hj, hf⟩
  · have HE := Lib.hid hf
    clear hf
    have HXB : Hid (BxA w1 w.heap.size zA) := HX1.out
    have x0 := HXB.out.cell 0
    have x1 := HXB.out.cell 1
    have x2 := HXB.out.cell 2
    have x3 := HXB.out.cell 3
    have x4 := HXB.out.cell 4
    have x5 := HXB.out.cell 5
    have x6 := HXB.out.cell 6
    have f0 := HXB.out.fz 0
    have f1 := HXB.out.fz 1
    have f2 := HXB.out.fz 2
    have f3 := HXB.out.fz 3
    have f4 := HXB.out.fz 4
    have f5 := HXB.out.fz 5
    have f6 := HXB.out.fz 6
    have HQ := Lib.hid (HXB.out.set7 zA)
    have HBQ := Lib.hid (HB1.out.trans (below_set7 (W := w1) (B := w.heap.size) (b := w.heap.size) (Nat.le_refl _) (.int .i64 zA.id) (.string zA.nm) (.int .i64 zA.ty) (.bool zA.many) (.int .i64 zA.un) (.bool zA.part) (.bool zA.ix)))
    go_wp2
    have c0 := HQ.out.cell 0
    have c1 := HQ.out.cell 1
    have c2 := HQ.out.cell 2
    have c3 := HQ.out.cell 3
    have c4 := HQ.out.cell 4
    have c5 := HQ.out.cell 5
    have c6 := HQ.out.cell 6
    simp only [zA] at c0 c1 c2 c3 c4 c5 c6
    clear x0 x1 x2 x3 x4 x5 x6 f0 f1 f2 f3 f4 f5 f6
    refine bodyPost_ret (v := .tuple #[.agg #[.int .i64 0, .string ⟨#[]⟩, .int .i64 0, .bool false, .int .i64 0, .bool false, .bool false], .bool false]) ?_ rfl ⟨by rw [HE.out]; rfl, HBQ.out⟩
    rw [results_cell_tmp rfl]
    go_simp
  · have HE := Lib.hid hf
    have hjn : j < l.length := (List.getElem?_eq_some_iff.1 hj).1
    have hy : l[j] = y := (List.getElem?_eq_some_iff.1 hj).2
    have hji : (j : Int) < (l.length : Int) := by omega
    have hj0 : decide ((0 : Int) ≤ j) = true := decide_eq_true (by omega)
    obtain ⟨b, o, rfl, hlt2, hp⟩ := HS1.out.at_ hjn
    rw [hy] at hp
    have y0 := hp.c0
    have y1 := hp.c1
    have y2 := hp.c2
    have y3 := hp.c3
    have y4 := hp.c4
    have y5 := hp.c5
    have y6 := hp.c6
    clear hp hy hf hj
    have HXB : Hid (BxA w1 w.heap.size zA) := HX1.out
    have x0 := HXB.out.cell 0
    have x1 := HXB.out.cell 1
    have x2 := HXB.out.cell 2
    have x3 := HXB.out.cell 3
    have x4 := HXB.out.cell 4
    have x5 := HXB.out.cell 5
    have x6 := HXB.out.cell 6
    have f0 := HXB.out.fz 0
    have f1 := HXB.out.fz 1
    have f2 := HXB.out.fz 2
    have f3 := HXB.out.fz 3
    have f4 := HXB.out.fz 4
    have f5 := HXB.out.fz 5
    have f6 := HXB.out.fz 6
    have HQ := Lib.hid (HXB.out.set7 y)
    have HBQ := Lib.hid (HB1.out.trans (below_set7 (W := w1) (B := w.heap.size) (b := w.heap.size) (Nat.le_refl _) (.int .i64 y.id) (.string y.nm) (.int .i64 y.ty) (.bool y.many) (.int .i64 y.un) (.bool y.part) (.bool y.ix)))
    go_wp2
    have c0 := HQ.out.cell 0
    have c1 := HQ.out.cell 1
    have c2 := HQ.out.cell 2
    have c3 := HQ.out.cell 3
    have c4 := HQ.out.cell 4
    have c5 := HQ.out.cell 5
    have c6 := HQ.out.cell 6
    clear x0 x1 x2 x3 x4 x5 x6 f0 f1 f2 f3 f4 f5 f6
    refine bodyPost_ret (v := .tuple #[.agg #[.int .i64 y.id, .string y.nm, .int .i64 y.ty, .bool y.many, .int .i64 y.un, .bool y.part, .bool y.ix], .bool true]) ?_ rfl ⟨by rw [HE.out]; rfl, HBQ.out⟩
    rw [results_cell_tmp rfl]
    go_simp

set_option maxRecDepth 100000 in
set_option maxHeartbeats 1000000 in
theorem byID_any (A : Option Addr) (c : Nat) (l : List Att) (s : Int) (w : World) (hs : SlA w w.heap.size A l) (hl : l.length ≤ 2000000000000) :
    Calls Try.prog 15 #[.slice A l.length c, .int .i64 s] w fun e w' => e = .returned (fndV (l.find? (idP s))) ∧ Below w.heap.size w w' := by
  obtain ⟨w0, hw0⟩ : ∃ w0, (w.alloc (.cells #[.int .i64 s] 2)).alloc (.cells #[.int .i64 0, .string ⟨#[]⟩, .int .i64 0, .bool false, .int .i64 0, .bool false, .bool false] 33) = w0 := ⟨_, rfl⟩
  have hb0 : Below w.heap.size w w0 := by rw [← hw0]; exact ((Below.refl _ _).alloc (Nat.le_refl _) _).alloc (by simp) _
  have hx0 : w0.heap[w.heap.size + 1]? = some (.cells #[.int .i64 0, .string ⟨#[]⟩, .int .i64 0, .bool false, .int .i64 0, .bool false, .bool false] 33) := by rw [← hw0]; exact heap_alloc2_new w _ _
  have hs0 : w0.cell? ⟨w.heap.size, 0, none⟩ = some (.int .i64 s) := by
    rw [← hw0]
    exact (World.cell?_alloc_lt _ _ ⟨w.heap.size, 0, none⟩ (by simp)).trans (by have h := heap_alloc_new w (.cells #[.int .i64 s] 2); unfold World.cell?; rw [h]; rfl)
  have hz0 : w0.heap.size = w.heap.size + 2 := by rw [← hw0]; simp
  have HI := Lib.hid (firstByID_any A c l s w.heap.size w0 ((hs.next hb0 (Nat.le_refl _)).more (by omega)) hl hs0 (by omega))
  have HB0 := Lib.hid hb0
  have HX0 := Lib.hid hx0
  clear hs hs0 hb0 hx0
  go_enter Try.func15, Try.ntmps15
  go_upto_region 1 with (fail)
  try rw [hw0]
  clear hw0
  go_wp2_with fail
  refine HI.out.mono ?_
  rintro e w1 ⟨rfl, hb1⟩
  have HB1 := Lib.hid (HB0.out.trans (hb1.mono HB0.out.size))
  have HXB : Hid (BxA w1 (w.heap.size + 1) zA) := (hb1.block (w.heap.size + 1) (by omega)).trans HX0.out
  clear hb1 HI
  obtain ⟨o, ho⟩ : ∃ o, l.find? (idP s) = o := ⟨_, rfl⟩
  obtain ⟨q, hq⟩ : ∃ q, o.getD zA = q := ⟨_, rfl⟩
  have HV : Hid (fndV (l.find? (idP s)) = .tuple #[.agg #[.int .i64 q.id, .string q.nm, .int .i64 q.ty, .bool q.many, .int .i64 q.un, .bool q.part, .bool q.ix], .bool o.isSome]) := by
    show _ = _
    rw [ho, ← hq]
    rfl
  clear hq ho
  rw [HV.out]
  have x0 := HXB.out.cell 0
  have x1 := HXB.out.cell 1
  have x2 := HXB.out.cell 2
  have x3 := HXB.out.cell 3
  have x4 := HXB.out.cell 4
  have x5 := HXB.out.cell 5
  have x6 := HXB.out.cell 6
  have f0 := HXB.out.fz 0
  have f1 := HXB.out.fz 1
  have f2 := HXB.out.fz 2
  have f3 := HXB.out.fz 3
  have f4 := HXB.out.fz 4
  have f5 := HXB.out.fz 5
  have f6 := HXB.out.fz 6
  have HQ := Lib.hid (HXB.out.set7 q)
  have HBQ := Lib.hid (HB1.out.trans (below_set7 (W := w1) (B := w.heap.size) (b := w.heap.size + 1) (Nat.le_succ _) (.int .i64 q.id) (.string q.nm) (.int .i64 q.ty) (.bool q.many) (.int .i64 q.un) (.bool q.part) (.bool q.ix)))
  go_wp2
  have c0 := HQ.out.cell 0
  have c1 := HQ.out.cell 1
  have c2 := HQ.out.cell 2
  have c3 := HQ.out.cell 3
  have c4 := HQ.out.cell 4
  have c5 := HQ.out.cell 5
  have c6 := HQ.out.cell 6
  clear x0 x1 x2 x3 x4 x5 x6 f0 f1 f2 f3 f4 f5 f6
  refine bodyPost_ret (v := .tuple #[.agg #[.int .i64 q.id, .string q.nm, .int .i64 q.ty, .bool q.many, .int .i64 q.un, .bool q.part, .bool q.ix], .bool o.isSome]) ?_ rfl ⟨by rw [HV.out], HBQ.out⟩
  rw [results_cell_tmp rfl]
  go_simp
end Go.Proofs.Ytoidkhojkekjeaa
