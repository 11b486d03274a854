import Derived.BigQuiet
import Derived.Test.YtlmihlepaoifiaaGreatJAMayE
import Derived.Test.YtlmihlepaoifiaaGreatJARefB
import Derived.Test.YtlmihlepaoifiaaGreatJFMayR
import Derived.Deep.Draws
import Derived.Laws.StructEq
import Derived.RangeFuncBox
import Derived.Deep.Cut
import Derived.Test.YtlmihlepaoifiaaGreatJAValR
import Derived.Test.YtlmihlepaoifiaaGreatJFMay
import Derived.Test.YtlmihlepaoifiaaGreatJOArgs
/-
  CONTRACT of the document's own answer: Of (facts' attributes), given the contract of its Made.
-/
namespace Go.Proofs.YtlmihlepaoifiaaGreat
open Go.RowKit Go.Shelf

theorem docFrom_snoc (all : List FactP) (f : FactP) : ∀ (l : List FactP) (p : Option Int), docFrom all p (l ++ [f]) = docFrom all p l ++ (if (match l.getLast? with | some g => some g.e | none => p) = some f.e then [] else (docL f.e all).toList)
  | [], p => by
    show (if p = some f.e then [] else (docL f.e all).toList) ++ [] = [] ++ (if p = some f.e then [] else (docL f.e all).toList)
    rw [List.append_nil, List.nil_append]
  | g :: l, p => by
    show (if p = some g.e then [] else (docL g.e all).toList) ++ docFrom all (some g.e) (l ++ [f]) = ((if p = some g.e then [] else (docL g.e all).toList) ++ docFrom all (some g.e) l) ++ _
    rw [docFrom_snoc all f l (some g.e), ← List.append_assoc]
    congr 1
    cases l with
    | nil => rfl
    | cons x l =>
      rw [List.getLast?_cons_cons]
      obtain ⟨z, hz⟩ : ∃ z, (x :: l).getLast? = some z := Option.isSome_iff_exists.1 (by simp)
      rw [hz]
theorem docFrom_zero {all fs : List FactP} {f : FactP} (h : fs[0]? = some f) : docFrom all none (fs.take (0 + 1)) = docFrom all none (fs.take 0) ++ (docL f.e all).toList := by
  rw [List.take_add_one, h, Option.toList_some, docFrom_snoc, List.take_zero]
  rfl
theorem docFrom_succ {all fs : List FactP} {f g : FactP} {j : Nat} (hg : fs[j]? = some g) (h : fs[j + 1]? = some f) : docFrom all none (fs.take (j + 1 + 1)) = docFrom all none (fs.take (j + 1)) ++ (if g.e = f.e then [] else (docL f.e all).toList) := by
  have hl : (fs.take (j + 1)).getLast? = some g := by
    rw [List.take_add_one, hg, Option.toList_some, List.getLast?_append]
    rfl
  rw [List.take_add_one (i := j + 1), h, Option.toList_some, docFrom_snoc, hl]
  congr 1
  by_cases he : g.e = f.e
  · rw [if_pos he, if_pos (show (some g.e : Option Int) = some f.e by rw [he])]
  · rw [if_neg he, if_neg (show ¬ (some g.e : Option Int) = some f.e from fun h => by injection h with h; exact he h)]
/-- no name stands twice -/
def oneName (l : List Att) : Prop := (l.map (·.nm)).Nodup
instance (l : List Att) : Decidable (oneName l) := inferInstanceAs (Decidable (l.map (·.nm)).Nodup)
theorem two_no {l : List Att} {i k : Nat} {x y : Att} (hi : l[i]? = some x) (hk : l[k]? = some y) (hki : k < i) (h : x.nm = y.nm) : ¬ oneName l := fun hn => by
  obtain ⟨hi1, rfl⟩ := List.getElem?_eq_some_iff.1 hi
  obtain ⟨hk1, rfl⟩ := List.getElem?_eq_some_iff.1 hk
  have := List.pairwise_iff_getElem.1 hn k i (by simpa using hk1) (by simpa using hi1) hki
  simp at this
  exact this h.symm
theorem one_yes {l : List Att} (h : ∀ (i : Nat) (x : Att), l[i]? = some x → ∀ (k : Nat) (y : Att), k < i → l[k]? = some y → x.nm ≠ y.nm) : oneName l := by
  show (l.map (·.nm)).Pairwise _
  rw [List.pairwise_iff_getElem]
  intro k i hk hi hki
  rw [List.length_map] at hk hi
  have := h i _ (List.getElem?_eq_getElem hi) k _ hki (List.getElem?_eq_getElem hk)
  simp
  exact fun he => this he.symm
theorem flatA {l : List Att} {j i : Nat} (hi : i < 7) : (l.flatMap cellsA)[j * 7 + i]? = l[j]?.bind fun x => (cellsA x)[i]? := flatG (enc := cellsA) (k := 7) (fun _ => rfl) hi
theorem OwnA.form {W : World} {B : Nat} {v : Value} {l : List Att} (h : OwnA W B v l) : ∃ A c, v = .slice A l.length c ∧ SlA W W.heap.size A l ∧ l.length ≤ c ∧ c ≤ maxLen := by
  rcases h.2 with ⟨rfl, h0⟩ | ⟨g, cap, cur, rfl, _, hgb, h1, h2, _⟩
  · exact ⟨none, 0, by rw [h0], fun hl => absurd (List.length_eq_zero_iff.1 h0) hl, by omega, Nat.zero_le _⟩
  · refine ⟨_, _, rfl, fun _ => ⟨g, 0, rfl, (Array.getElem?_eq_some_iff.1 hgb).1, fun j p hp => ?_⟩, h1, h2⟩
    have hr : W.ownsRow B 43 7 (.slice (some ⟨g, 0, none⟩) l.length cap) l.length (l.flatMap cellsA) := h
    have hj : j < l.length := (List.getElem?_eq_some_iff.1 hp).1
    have hc : ∀ i, i < 7 → W.cell? ⟨g, j * 7 + i, none⟩ = (cellsA p)[i]? := fun i hi => by
      rw [hr.cellAt (j * 7 + i) (by omega), flatA hi, hp]; rfl
    rw [Nat.zero_add]
    exact hc
/-- the attributes of facts -/
def attsL (fs : List FactP) : List Att := builtL ++ docFrom fs none fs
def attsE (fs : List FactP) : Int := if mayFs fs then (if oneName (attsL fs) then 0 else 70) else 60
theorem docFrom_len (all : List FactP) : ∀ (l : List FactP) (p : Option Int), (docFrom all p l).length ≤ l.length
  | [], _ => Nat.le_refl _
  | f :: l, p => by
    show ((if p = some f.e then [] else (docL f.e all).toList) ++ docFrom all (some f.e) l).length ≤ l.length + 1
    rw [List.length_append]
    have := docFrom_len all l (some f.e)
    have h2 : (if p = some f.e then [] else (docL f.e all).toList).length ≤ 1 := by
      split
      · exact Nat.zero_le _
      · cases docL f.e all <;> simp
    omega
/-- what Of answers -/
def OfEnd (W : World) (B : Nat) (fs : List FactP) (v : Value) (ec : Int) : Prop := ec = attsE fs ∧ if attsE fs = 0 then OwnA W B v (attsL fs) else v = .slice none 0 0
theorem ofEnd_no {W : World} {B : Nat} {fs : List FactP} {ec : Int} (h : attsE fs = ec) (h0 : ec ≠ 0) : OfEnd W B fs (.slice none 0 0) ec := ⟨h.symm, by rw [if_neg (by rw [h]; exact h0)]⟩
theorem ofEnd_yes {W : World} {B : Nat} {fs : List FactP} {v : Value} (h : attsE fs = 0) (ho : OwnA W B v (attsL fs)) : OfEnd W B fs v 0 := ⟨h.symm, by rw [if_pos h]; exact ho⟩
set_option maxRecDepth 100000 in
set_option maxHeartbeats 8000000 in
theorem refOf_if (hMade : ∀ (A : Option Addr) (c : Nat) (fs : List FactP) (e : Int) (w : World), FVa w (.slice A fs.length c) fs → fs.length ≤ 1954687338268 → Calls Tryz.prog 41 #[.slice A fs.length c, .int .i64 e] w fun r w' => r = .returned (fndV (docL e fs)) ∧ Below w.heap.size w w')
    (A : Option Addr) (c : Nat) (fs : List FactP) (w : World) (hs : FVa w (.slice A fs.length c) fs) (hl : fs.length ≤ 1954687338268) (hz : ∀ f ∈ fs, f.s.size ≤ maxLen ∧ f.l.length ≤ 9223372036854775807) :
    Calls Tryz.prog 9 #[.slice A fs.length c] w fun r w' => (∃ v ec, r = .returned (.tuple #[v, .int .i64 ec]) ∧ OfEnd w' w.heap.size fs v ec) ∧ Below w.heap.size w w' := by
  obtain ⟨i0, hi, hz0, hz1, hz2⟩ := info_parts infoA
  have hmx : 3000000000000 ≤ maxLen := by decide
  have HM := Lib.hid (refMayF_big A c fs w hs hl hz)
  have HS := Lib.hid hs
  have HMD := Lib.hid hMade
  obtain ⟨v, hv⟩ : ∃ v, mayFs fs = v := ⟨_, rfl⟩
  rw [hv] at HM
  have HV := Lib.hid hv
  clear hs hz hv hMade
  go_enter Tryz.func9, Tryz.ntmps9
  go_wp2_with fail
  refine HM.out.mono ?_
  rintro e9 w1 ⟨rfl, hb1⟩
  have HB1 := Lib.hid hb1
  clear hb1 HM
  cases v
  · have HE : Hid (attsE fs = 60) := by show _ = _; unfold attsE; rw [HV.out]; rfl
    go_wp2
    go_ret2
    exact ⟨⟨_, _, rfl, ofEnd_no HE.out (by decide)⟩, HB1.out⟩
  · go_wp2_with fail
    refine (refBuilt_any w1).mono ?_
    rintro e9 w2 ⟨v2, rfl, ho2, hb2⟩
    have HO2 : Hid (OwnA w2 w.heap.size v2 builtL) := ⟨ho2.1, by
      rcases ho2.2 with h | ⟨g, cap, cur, h1, h2, h3⟩
      · exact .inl h
      · exact .inr ⟨g, cap, cur, h1, by have := HB1.out.size; omega, h3⟩⟩
    have HB2 := Lib.hid (HB1.out.trans (hb2.mono HB1.out.size))
    clear ho2 hb2
    go_wp2
    go_loopg [5, 6] fs.length (fun g x y wr => ∃ (j : Nat) (ps : List Att), y = .int .i64 j ∧ j + g = fs.length ∧ Hid (OwnA wr w.heap.size x ps) ∧ Hid (ps = builtL ++ docFrom fs none (fs.take j)) ∧ Hid (ps.length ≤ 7 + j) ∧ Hid (Below w.heap.size w wr))
    case atStart => exact ⟨0, builtL, rfl, by omega, HO2.out, by show _ = _; rw [List.take_zero]; exact (List.append_nil _).symm, Nat.le_refl _, HB2.out⟩
    case round =>
      obtain ⟨j, ps, rfl, hj, HO, HP, HPL, HB⟩ := hrel
      cases gk with
      | zero =>
        have hjz : ¬ ((j : Int) < (fs.length : Int)) := by omega
        have HE : Hid (ps = attsL fs) := by
          have := HP.out
          rw [List.take_of_length_le (by omega)] at this
          exact this
        have HLN : Hid (ps.length ≤ 2000000000000) := by have := HPL.out; show _ ≤ _; omega
        obtain ⟨A2, c2, rfl, hsa, _⟩ := HO.out.form
        have HSA := Lib.hid hsa
        clear hsa hj
        go_wp2
        go_loopg [9] ps.length (fun g x wq => ∃ (i q : Nat), x = .int .i64 i ∧ i + g = ps.length ∧ Hid (∀ (i1 : Nat) (x : Att), i1 < i → ps[i1]? = some x → ∀ (k : Nat) (y : Att), k < i1 → ps[k]? = some y → x.nm ≠ y.nm) ∧ wq = wr.drewN q)
        case atStart => exact ⟨0, 0, rfl, by omega, fun i1 x h => by omega, rfl⟩
        case round =>
          obtain ⟨i, q, rfl, hi9, HI, rfl⟩ := hrel
          cases gk with
          | zero =>
            have hiz : ¬ ((i : Int) < (ps.length : Int)) := by omega
            have HF : Hid (attsE fs = 0) := by
              show _ = _
              unfold attsE
              rw [HV.out, if_pos rfl, ← HE.out, if_pos (one_yes (fun i1 x hx => HI.out i1 x (by have := (List.getElem?_eq_some_iff.1 hx).1; omega) hx))]
            go_wp2
            go_ret2
            exact ⟨⟨_, _, rfl, ofEnd_yes HF.out (by rw [← HE.out]; exact HO.out.next (below_ind (Below.refl wr.heap.size wr) q))⟩, below_ind HB.out q⟩
          | succ g2 =>
            have hii : (i : Int) < (ps.length : Int) := by omega
            have hib : (i : Int) ≤ 2000000000000 := by have := HLN.out; omega
            have hin : i < ps.length := by omega
            obtain ⟨b, o, rfl, _, hp⟩ := HSA.out.at_ hin
            obtain ⟨x, hx⟩ : ∃ x, ps[i] = x := ⟨_, rfl⟩
            rw [hx] at hp
            have HXI : Hid (ps[i]? = some x) := by show _ = _; rw [List.getElem?_eq_getElem hin, hx]
            have x1 : wr.cell? ⟨b, o + i * 7 + 1, none⟩ = some (.string x.nm) := hp 1 (by decide)
            clear hp hx
            go_wp2
            go_loopg [10] i (fun g3 y wq => ∃ (k q2 : Nat), y = .int .i64 k ∧ k + g3 = i ∧ Hid (∀ (k1 : Nat) (y : Att), k1 < k → ps[k1]? = some y → x.nm ≠ y.nm) ∧ wq = wr.drewN q2)
            case atStart => exact ⟨0, q, rfl, by omega, fun k1 y h => by omega, rfl⟩
            case round =>
              obtain ⟨k, q2, rfl, hk9, HK, rfl⟩ := hrel
              cases gk with
              | zero =>
                have hkz : ¬ ((k : Int) < (i : Int)) := by omega
                have hib2 : (i : Int) ≤ 2000000000000 := by have := HLN.out; omega
                have HI2 : Hid (∀ (i1 : Nat) (x : Att), i1 < i + 1 → ps[i1]? = some x → ∀ (k : Nat) (y : Att), k < i1 → ps[k]? = some y → x.nm ≠ y.nm) := fun i1 x1 h hx1 k1 y1 hk1 hy1 => by
                  by_cases hlt : i1 < i
                  · exact HI.out i1 x1 hlt hx1 k1 y1 hk1 hy1
                  · obtain rfl : i1 = i := by omega
                    rw [HXI.out] at hx1
                    cases hx1
                    exact HK.out k1 y1 (by omega) hy1
                go_wp2
                go_roundg g2
                case measure => omega
                case rel => exact ⟨i + 1, q2, by go_num, by omega, HI2, rfl⟩
              | succ g3 =>
                have hki : (k : Int) < (i : Int) := by omega
                have hkb : (k : Int) ≤ 2000000000000 := by omega
                have hkn : k < ps.length := by omega
                have hkl : (k : Int) < (ps.length : Int) := by omega
                obtain ⟨b5, o5, hA5, _, hp⟩ := HSA.out.at_ hkn
                injection hA5 with hA5
                injection hA5 with e1 e2
                subst e1
                subst e2
                obtain ⟨y, hy⟩ : ∃ y, ps[k] = y := ⟨_, rfl⟩
                rw [hy] at hp
                have HYK : Hid (ps[k]? = some y) := by show _ = _; rw [List.getElem?_eq_getElem hkn, hy]
                have y1 : wr.cell? ⟨b, o + k * 7 + 1, none⟩ = some (.string y.nm) := hp 1 (by decide)
                clear hp hy
                by_cases he : x.nm = y.nm
                · have q0 : (x.nm.toList == y.nm.toList) = true := by rw [he, beq_self_eq_true]
                  have HF : Hid (attsE fs = 70) := by
                    show _ = _
                    unfold attsE
                    rw [HV.out, if_pos rfl, ← HE.out, if_neg (two_no HXI.out HYK.out (by omega) he)]
                  clear he
                  go_wp2
                  go_quiet (fail)
                  go_wp2
                  go_ret2
                  exact ⟨⟨_, _, rfl, ofEnd_no HF.out (by decide)⟩, below_ind (below_ind HB.out q2) _⟩
                · have q0 : (x.nm.toList == y.nm.toList) = false := by
                    rw [beq_eq_false_iff_ne, ByteArray.toList_eq, ByteArray.toList_eq]
                    exact fun h => he (ByteArray.ext (Array.toList_inj.1 h))
                  have HK2 : Hid (∀ (k1 : Nat) (y : Att), k1 < k + 1 → ps[k1]? = some y → x.nm ≠ y.nm) := fun k1 y1 h hy1 => by
                    by_cases hlt : k1 < k
                    · exact HK.out k1 y1 hlt hy1
                    · obtain rfl : k1 = k := by omega
                      rw [HYK.out] at hy1
                      cases hy1
                      exact he
                  clear he
                  go_wp2
                  go_quiet (fail)
                  go_wp2
                  go_roundg g3
                  case measure => omega
                  case rel => exact ⟨k + 1, _, by go_num, by omega, HK2, rfl⟩
      | succ g =>
        have hjz : (j : Int) < (fs.length : Int) := by omega
        have hjn : j < fs.length := by omega
        cases j with
        | zero =>
          obtain ⟨b, o, sv, rfl, hlt, hc, _⟩ := fva_at HS.out hjn
          obtain ⟨f, hf⟩ : ∃ f, fs[0] = f := ⟨_, rfl⟩
          rw [hf] at hc
          have HN := Lib.hid (docFrom_zero (all := fs) (fs := fs) (f := f) (by rw [List.getElem?_eq_getElem hjn, hf]))
          have y0 := (hc.next HB.out hlt).1
          simp only [Nat.zero_mul, Nat.add_zero] at y0
          clear hf hc
          go_wp2
          go_quiet (fail)
          have HFN : Hid (FVa (wr.drewN nq) (.slice (some ⟨b, o, none⟩) fs.length c) fs) := HS.out.next (below_ind HB.out nq)
          have HBN : Hid (Below w.heap.size w (wr.drewN nq)) := below_ind HB.out nq
          have HON := Lib.hid (HO.out.next (below_ind (Below.refl wr.heap.size wr) nq))
          obtain ⟨d, hd⟩ : ∃ d, docL f.e fs = d := ⟨_, rfl⟩
          have HC := Lib.hid (HMD.out (some ⟨b, o, none⟩) c fs f.e (wr.drewN nq) HFN.out hl)
          rw [hd] at HC
          have HN2 : Hid (docFrom fs none (fs.take (0 + 1)) = docFrom fs none (fs.take (0)) ++ d.toList) := by show _ = _; rw [HN.out, hd]
          clear hd
          go_wp2_with fail
          refine HC.out.mono ?_
          rintro e9 w3 ⟨rfl, hb3⟩
          clear HC
          have HB3 := Lib.hid (HBN.out.trans (hb3.mono HBN.out.size))
          have HO3 := Lib.hid (HON.out.next hb3)
          clear hb3 y0
          cases d
          · have hbl := (Below.refl w3.heap.size w3).alloc (Nat.le_refl _) (.cells #[.int .i64 0, .string ⟨#[]⟩, .int .i64 0, .bool false, .int .i64 0, .bool false, .bool false] 43)
            have HO4 := Lib.hid (HO3.out.next hbl)
            have HB4 := Lib.hid (HB3.out.trans (hbl.mono HB3.out.size))
            clear hbl
            simp only [fndV, attV, zA, Option.getD_none, Option.isSome_none]
            go_wp2
            go_roundg g
            case measure => omega
            case rel => exact ⟨0 + 1, ps, by go_num, by omega, HO4.out, by show _ = _; rw [HN2.out, Option.toList_none, List.append_nil]; exact HP.out, by have := HPL.out; show _ ≤ _; omega, HB4.out⟩
          · rename_i y
            have hbl := (Below.refl w3.heap.size w3).alloc (Nat.le_refl _) (.cells #[.int .i64 y.id, .string y.nm, .int .i64 y.ty, .bool y.many, .int .i64 y.un, .bool y.part, .bool y.ix] 43)
            have hbl2 := hbl.alloc hbl.size (.cells #[.int .i64 y.id, .string y.nm, .int .i64 y.ty, .bool y.many, .int .i64 y.un, .bool y.part, .bool y.ix] 43)
            have HO4 := Lib.hid (HO3.out.next hbl2)
            have HB4 := Lib.hid (HB3.out.trans (hbl2.mono HB3.out.size))
            have hlc := litA (w3.alloc (.cells #[.int .i64 y.id, .string y.nm, .int .i64 y.ty, .bool y.many, .int .i64 y.un, .bool y.part, .bool y.ix] 43)) y
            rw [show (w3.alloc (.cells #[.int .i64 y.id, .string y.nm, .int .i64 y.ty, .bool y.many, .int .i64 y.un, .bool y.part, .bool y.ix] 43)).heap.size = w3.heap.size + 1 by simp] at hlc
            have HLC := Lib.hid hlc
            clear hbl hbl2 hlc
            simp only [fndV, attV, Option.getD_some, Option.isSome_some]
            go_wp2_with (at_builtin; refine wpList_append_own _ rfl _ _ 32 rfl w.heap.size 43 i0 (.agg #[.int .i64 0, .string ⟨#[]⟩, .int .i64 0, .bool false, .int .i64 0, .bool false, .bool false]) 7 56 Tryz.underlying32 hi hz0 hz1 hz2 rfl (by decide) _ _ _ rfl HO4.out ⟨w3.heap.size + 1, 0, none⟩ 1 1 (cellsA y) rfl rfl HLC.out (cellsA_one _) (by have := HPL.out; omega) (by have := HPL.out; omega) HB4.out.size ?_; intro v1 w8 hown hgrow hnil; have HB8 : Hid (Below w.heap.size _ w8) := (Below.refl _ _).grown hgrow HB4.out.size (fun k hk => (World.ownsRow.lt HO4.out k hk).1); have HO8 : Hid (OwnA w8 w.heap.size v1 (ps ++ [y])) := (by show World.ownsRow _ _ _ _ _ _ _; rw [List.length_append, List.flatMap_append]; simpa using hown); have HBE := Lib.hid (HB4.out.trans HB8.out); clear hown hgrow hnil)
            go_roundg g
            case measure => omega
            case rel => exact ⟨0 + 1, ps ++ [y], by go_num, by omega, HO8.out, by show _ = _; rw [HN2.out, HP.out, Option.toList_some, List.append_assoc], by rw [List.length_append]; simp only [List.length_singleton]; have := HPL.out; show _ ≤ _; omega, HBE.out⟩
        | succ k =>
          obtain ⟨b, o, sv, rfl, hlt, hc, _⟩ := fva_at HS.out hjn
          obtain ⟨b5, o5, sv5, hA5, hlt5, hc5, _⟩ := fva_at HS.out (show k < fs.length by omega)
          injection hA5 with hA5
          injection hA5 with e1 e2
          subst e1
          subst e2
          obtain ⟨f, hf⟩ : ∃ f, fs[k + 1] = f := ⟨_, rfl⟩
          obtain ⟨f5, hf5⟩ : ∃ f, fs[k] = f := ⟨_, rfl⟩
          rw [hf] at hc
          rw [hf5] at hc5
          have HNN := Lib.hid (docFrom_succ (all := fs) (fs := fs) (f := f) (g := f5) (j := k) (by rw [List.getElem?_eq_getElem (show k < fs.length by omega), hf5]) (by rw [List.getElem?_eq_getElem hjn, hf]))
          have y0 := (hc.next HB.out hlt).1
          have z0 := (hc5.next HB.out hlt5).1
          clear hf hc hf5 hc5
          have hkl : (k : Int) < (fs.length : Int) := by omega
          have hkm : (k : Int) ≤ 2000000000000 := by omega
          have hg0 : decide (0 < k + 1) = true := decide_eq_true (by omega)
          have hg1 : (0 : Int) < (k : Int) + 1 := by omega
          have hg2 : decide ((0 : Int) < (k : Int) + 1) = true := decide_eq_true hg1
          by_cases he : f5.e = f.e
          · have q0 : (f.e == f5.e) = true := by rw [he, beq_self_eq_true]
            have HN : Hid (docFrom fs none (fs.take (k + 1 + 1)) = docFrom fs none (fs.take (k + 1))) := by show _ = _; rw [HNN.out, if_pos he, List.append_nil]
            clear he
            go_wp2
            go_quiet (fail)
            go_wp2
            go_roundg g
            case measure => omega
            case rel => exact ⟨k + 1 + 1, ps, by go_num, by omega, HO.out.next (below_ind (Below.refl wr.heap.size wr) _), by show _ = _; rw [HN.out]; exact HP.out, by have := HPL.out; show _ ≤ _; omega, below_ind HB.out _⟩
          · have q0 : (f.e == f5.e) = false := beq_eq_false_iff_ne.2 (fun h => he h.symm)
            have HN : Hid (docFrom fs none (fs.take (k + 1 + 1)) = docFrom fs none (fs.take (k + 1)) ++ (docL f.e fs).toList) := by show _ = _; rw [HNN.out, if_neg he]
            clear he
            go_wp2
            go_quiet (fail)
            have HFN : Hid (FVa (wr.drewN nq) (.slice (some ⟨b, o, none⟩) fs.length c) fs) := HS.out.next (below_ind HB.out nq)
            have HBN : Hid (Below w.heap.size w (wr.drewN nq)) := below_ind HB.out nq
            have HON := Lib.hid (HO.out.next (below_ind (Below.refl wr.heap.size wr) nq))
            obtain ⟨d, hd⟩ : ∃ d, docL f.e fs = d := ⟨_, rfl⟩
            have HC := Lib.hid (HMD.out (some ⟨b, o, none⟩) c fs f.e (wr.drewN nq) HFN.out hl)
            rw [hd] at HC
            have HN2 : Hid (docFrom fs none (fs.take (k + 1 + 1)) = docFrom fs none (fs.take (k + 1)) ++ d.toList) := by show _ = _; rw [HN.out, hd]
            clear hd
            go_wp2_with fail
            refine HC.out.mono ?_
            rintro e9 w3 ⟨rfl, hb3⟩
            clear HC
            have HB3 := Lib.hid (HBN.out.trans (hb3.mono HBN.out.size))
            have HO3 := Lib.hid (HON.out.next hb3)
            clear hb3 y0 z0
            cases d
            · have hbl := (Below.refl w3.heap.size w3).alloc (Nat.le_refl _) (.cells #[.int .i64 0, .string ⟨#[]⟩, .int .i64 0, .bool false, .int .i64 0, .bool false, .bool false] 43)
              have HO4 := Lib.hid (HO3.out.next hbl)
              have HB4 := Lib.hid (HB3.out.trans (hbl.mono HB3.out.size))
              clear hbl
              simp only [fndV, attV, zA, Option.getD_none, Option.isSome_none]
              go_wp2
              go_roundg g
              case measure => omega
              case rel => exact ⟨k + 1 + 1, ps, by go_num, by omega, HO4.out, by show _ = _; rw [HN2.out, Option.toList_none, List.append_nil]; exact HP.out, by have := HPL.out; show _ ≤ _; omega, HB4.out⟩
            · rename_i y
              have hbl := (Below.refl w3.heap.size w3).alloc (Nat.le_refl _) (.cells #[.int .i64 y.id, .string y.nm, .int .i64 y.ty, .bool y.many, .int .i64 y.un, .bool y.part, .bool y.ix] 43)
              have hbl2 := hbl.alloc hbl.size (.cells #[.int .i64 y.id, .string y.nm, .int .i64 y.ty, .bool y.many, .int .i64 y.un, .bool y.part, .bool y.ix] 43)
              have HO4 := Lib.hid (HO3.out.next hbl2)
              have HB4 := Lib.hid (HB3.out.trans (hbl2.mono HB3.out.size))
              have hlc := litA (w3.alloc (.cells #[.int .i64 y.id, .string y.nm, .int .i64 y.ty, .bool y.many, .int .i64 y.un, .bool y.part, .bool y.ix] 43)) y
              rw [show (w3.alloc (.cells #[.int .i64 y.id, .string y.nm, .int .i64 y.ty, .bool y.many, .int .i64 y.un, .bool y.part, .bool y.ix] 43)).heap.size = w3.heap.size + 1 by simp] at hlc
              have HLC := Lib.hid hlc
              clear hbl hbl2 hlc
              simp only [fndV, attV, Option.getD_some, Option.isSome_some]
              go_wp2_with (at_builtin; refine wpList_append_own _ rfl _ _ 32 rfl w.heap.size 43 i0 (.agg #[.int .i64 0, .string ⟨#[]⟩, .int .i64 0, .bool false, .int .i64 0, .bool false, .bool false]) 7 56 Tryz.underlying32 hi hz0 hz1 hz2 rfl (by decide) _ _ _ rfl HO4.out ⟨w3.heap.size + 1, 0, none⟩ 1 1 (cellsA y) rfl rfl HLC.out (cellsA_one _) (by have := HPL.out; omega) (by have := HPL.out; omega) HB4.out.size ?_; intro v1 w8 hown hgrow hnil; have HB8 : Hid (Below w.heap.size _ w8) := (Below.refl _ _).grown hgrow HB4.out.size (fun k hk => (World.ownsRow.lt HO4.out k hk).1); have HO8 : Hid (OwnA w8 w.heap.size v1 (ps ++ [y])) := (by show World.ownsRow _ _ _ _ _ _ _; rw [List.length_append, List.flatMap_append]; simpa using hown); have HBE := Lib.hid (HB4.out.trans HB8.out); clear hown hgrow hnil)
              go_roundg g
              case measure => omega
              case rel => exact ⟨k + 1 + 1, ps ++ [y], by go_num, by omega, HO8.out, by show _ = _; rw [HN2.out, HP.out, Option.toList_some, List.append_assoc], by rw [List.length_append]; simp only [List.length_singleton]; have := HPL.out; show _ ≤ _; omega, HBE.out⟩
end Go.Proofs.YtlmihlepaoifiaaGreat

/-
  THE LAW SchemaMakes, given the contracts of the program's Of and of the document's Made.
-/
namespace Go.Proofs.YtlmihlepaoifiaaGreat
open Go.RowKit Go.Shelf

/-- the attributes that Of gives -/
def resL (fs : List FactP) : List Att := if attsE fs = 0 then attsL fs else []
/-- what either Of gives -/
def OfR (w : World) (fs : List FactP) : Ending → World → Prop := fun r w' => (∃ A c, r = .returned (.tuple #[.slice A (resL fs).length c, .int .i64 (attsE fs)]) ∧ SlA w' w'.heap.size A (resL fs)) ∧ Below w.heap.size w w'
/-- what the law asks of its facts -/
structure MkA (w : World) (A : Option Addr) (c : Nat) (fs : List FactP) : Prop where
  f : FVa w (.slice A fs.length c) fs
  u : fs.length ≤ 1954687338268
  z : ∀ f ∈ fs, f.s.size ≤ maxLen
end Go.Proofs.YtlmihlepaoifiaaGreat

/-
  A CUT OF FACTS: s[k:] and s[:k] at slices of facts, and what they read as; the cut attributes come in as runs.
-/
namespace Go.Proofs.YtlmihlepaoifiaaGreat
open Go.RowKit Go.Shelf

def cutFa (A : Option Addr) (c k : Nat) : Option Addr := if c = k then A else A.map (·.add (k * 6))
theorem sliceFa_from (A : Option Addr) (n c k : Nat) (hk : k ≤ n) (_hc : n ≤ c) (w : World) : (Instr.slice 22 (.slice A n c) (some (.int .i64 (k : Int))) none none).run Tryz.prog w = .ok (.slice (cutFa A c k) (n - k) (c - k)) w := by
  have hT : Tryz.prog.underlying 22 = some (.slice (Tryz.prog.elem 22)) := by kernel_rfl
  have hS : (Go.sizeOf (Tryz.prog.elem 22)).run Tryz.prog w = .ok 6 w := by kernel_rfl
  rw [run_slice_l (w := w) 22 A n c hT .i64 (k : Int) (by omega) (by omega), hS]
  simp [Result.andThen, sliced, cutFa]
/-- the facts behind the first k -/
theorem FVa.drop {W : World} {A : Option Addr} {c : Nat} {fs : List FactP} (h : FVa W (.slice A fs.length c) fs) (k : Nat) (hk : k ≤ fs.length) : FVa W (.slice (cutFa A c k) (fs.drop k).length (c - k)) (fs.drop k) := by
  obtain ⟨A2, c2, e, hs, h2, h3⟩ := h
  injection e with e1 _ e3
  subst e1
  subst e3
  refine ⟨_, _, rfl, fun hl => ?_, by rw [List.length_drop]; omega, by omega⟩
  have hkl : k < fs.length := by
    rcases Nat.lt_or_ge k fs.length with h1 | h1
    · exact h1
    · exact absurd (List.drop_of_length_le h1) hl
  obtain ⟨b, o, rfl, hlt, hc⟩ := hs (fun e => by rw [e] at hkl; exact absurd hkl (Nat.not_lt_zero _))
  refine ⟨b, o + k * 6, ?_, hlt, fun j f hf => ?_⟩
  · unfold cutFa
    rw [if_neg (by omega)]
    show some ((⟨b, o, none⟩ : Addr).add (k * 6)) = _
    rw [addI]
  · rw [List.getElem?_drop] at hf
    obtain ⟨sv, h4, h5⟩ := hc (k + j) f hf
    refine ⟨sv, ?_, h5⟩
    rwa [show o + k * 6 + j * 6 = o + (k + j) * 6 by omega]
/-- the first k facts -/
theorem FVa.take {W : World} {A : Option Addr} {c : Nat} {fs : List FactP} (h : FVa W (.slice A fs.length c) fs) (k : Nat) (hk : k ≤ fs.length) : FVa W (.slice A (fs.take k).length c) (fs.take k) := by
  obtain ⟨A2, c2, e, hs, h2, h3⟩ := h
  injection e with e1 _ e3
  subst e1
  subst e3
  refine ⟨_, _, rfl, fun hl => ?_, by rw [List.length_take]; omega, h3⟩
  obtain ⟨b, o, rfl, hlt, hc⟩ := hs (fun e => hl (by rw [e]; simp))
  refine ⟨b, o, rfl, hlt, fun j f hf => ?_⟩
  rw [List.getElem?_take] at hf
  split at hf
  · exact hc j f hf
  · cases hf
/-- there is a cut into entities -/
theorem runsE_any : ∀ (n : Nat) (fs : List FactP), fs.length ≤ n → ∃ rs, RunsE fs rs := by
  intro n
  induction n with
  | zero =>
    intro fs h
    obtain rfl := List.length_eq_zero_iff.1 (Nat.le_zero.1 h)
    exact ⟨[], .nil⟩
  | succ n ih =>
    intro fs h
    cases fs with
    | nil => exact ⟨[], .nil⟩
    | cons f l =>
      have hone : ∃ k, OneAt (f :: l) k := by
        refine ⟨((f :: l).takeWhile fun g => decide (g.e = f.e)).length, ?_⟩
        have hw : (f :: l).takeWhile (fun g => decide (g.e = f.e)) = f :: l.takeWhile (fun g => decide (g.e = f.e)) := by rw [List.takeWhile_cons]; simp
        have hp : (f :: l).takeWhile (fun g => decide (g.e = f.e)) <+: (f :: l) := List.takeWhile_prefix _
        refine ⟨by rw [hw]; simp, hp.length_le, fun i a b hi ha hb => ?_, fun a b ha hb => ?_⟩
        · simp at hb
          subst hb
          have hi2 : ((f :: l).takeWhile fun g => decide (g.e = f.e))[i]? = some a := by
            obtain ⟨t, ht⟩ := hp
            rw [← ht, List.getElem?_append_left hi] at ha
            exact ha
          have := List.all_eq_true.1 (List.all_takeWhile (p := fun g : FactP => decide (g.e = f.e)) (l := f :: l)) a (List.mem_of_getElem? hi2)
          simpa using this
        · simp at hb
          subst hb
          intro he
          have hd : (f :: l).dropWhile (fun g => decide (g.e = f.e)) = (f :: l).drop ((f :: l).takeWhile fun g => decide (g.e = f.e)).length := by
            have h1 := List.takeWhile_append_dropWhile (p := fun g : FactP => decide (g.e = f.e)) (l := f :: l)
            have h2 : (f :: l).drop ((f :: l).takeWhile fun g => decide (g.e = f.e)).length = (((f :: l).takeWhile fun g => decide (g.e = f.e)) ++ (f :: l).dropWhile fun g => decide (g.e = f.e)).drop ((f :: l).takeWhile fun g => decide (g.e = f.e)).length := by rw [h1]
            rw [h2, List.drop_left]
          have hh : ((f :: l).dropWhile fun g => decide (g.e = f.e)).head? = some a := by rw [hd, List.head?_drop]; exact ha
          have := List.head?_dropWhile_not (fun g : FactP => decide (g.e = f.e)) (f :: l)
          rw [hh] at this
          simp at this
          exact this he
      obtain ⟨k, hk⟩ := hone
      have hkp := hk.pos
      obtain ⟨rs, hr⟩ := ih ((f :: l).drop k) (by rw [List.length_drop]; simp only [List.length_cons] at h ⊢; omega)
      exact ⟨_, .cons hk hr⟩
end Go.Proofs.YtlmihlepaoifiaaGreat
