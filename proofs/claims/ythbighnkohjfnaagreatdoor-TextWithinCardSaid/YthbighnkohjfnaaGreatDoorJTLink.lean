/-
  PLAIN: the program's tokens, taken one by one, are the text read token by token (lists of bytes).
-/
import Derived.Test.YthbighnkohjfnaaGreatDoorJTParse
namespace Go.Proofs.YthbighnkohjfnaaGreatDoor
open Go.RowKit

mutual
/-- a node as it stands in memory; S: the text -/
def ndOf (S : Bs) : PN → Nd
  | .mk k vk vn vs s kids a => .mk k vk vn ⟨vs.toArray⟩ ⟨s.toArray⟩ (ndsOf S kids) ((posL (S.take a) (1, 1)).1 : Int) ((posL (S.take a) (1, 1)).2 : Int)
def ndsOf (S : Bs) : List PN → List Nd
  | [] => []
  | x :: l => ndOf S x :: ndsOf S l
end
theorem ndsOf_map (S : Bs) : ∀ l : List PN, ndsOf S l = l.map (ndOf S)
  | [] => by rw [ndsOf]; rfl
  | x :: l => by rw [ndsOf, ndsOf_map S l]; rfl
theorem ndOf_mk (S : Bs) (k vk vn : Int) (vs s : Bs) (kids : List PN) (a : Nat) : ndOf S (.mk k vk vn vs s kids a) = .mk k vk vn ⟨vs.toArray⟩ ⟨s.toArray⟩ (kids.map (ndOf S)) ((posL (S.take a) (1, 1)).1 : Int) ((posL (S.take a) (1, 1)).2 : Int) := by
  rw [ndOf, ndsOf_map]
theorem inB_blank (c : UInt8) : inB blkS c = blankC c := by
  unfold inB blkS blankC
  rw [Bool.eq_iff_iff]
  simp [or_assoc]
/-- skipping -/
theorem skip_blank : ∀ (l : Bs), skipN false l = begP (inB blkS) l + skipN false (l.drop (begP (inB blkS) l))
  | [] => rfl
  | c :: r => by
    have hb := inB_blank c
    by_cases h : inB blkS c = true
    · have h2 : begP (inB blkS) (c :: r) = begP (inB blkS) r + 1 := by unfold begP; rw [List.takeWhile_cons_of_pos h]; rfl
      have h59 : ¬ c = 59 := by rintro rfl; exact absurd h (by decide)
      rw [h2, List.drop_succ_cons, skipN, if_neg h59, if_pos (hb ▸ h), skip_blank r]
      omega
    · have h2 : begP (inB blkS) (c :: r) = 0 := by unfold begP; rw [List.takeWhile_cons_of_neg h]; rfl
      rw [h2, List.drop_zero, Nat.zero_add]
theorem skip_line : ∀ (l : Bs), skipN true l = (l.takeWhile (fun b => b != 10)).length + skipN false (l.drop (l.takeWhile (fun b => b != 10)).length)
  | [] => rfl
  | c :: r => by
    by_cases h : c = 10
    · have h2 : (c :: r).takeWhile (fun b => b != 10) = [] := by rw [List.takeWhile_cons_of_neg]; simp [h]
      rw [h2, List.length_nil, List.drop_zero, Nat.zero_add, skipN, if_pos h, skipN, if_neg (by rw [h]; decide), if_pos (by rw [h]; decide)]
    · have h2 : (c :: r).takeWhile (fun b => b != 10) = c :: r.takeWhile (fun b => b != 10) := by rw [List.takeWhile_cons_of_pos]; simp [h]
      rw [h2, List.length_cons, List.drop_succ_cons, skipN, if_neg h, skip_line r]
      omega
theorem skip_rem (r : Bs) : skipN false (59 :: r) = ((59 :: r).takeWhile (fun b => b != 10)).length + skipN false ((59 :: r).drop ((59 :: r).takeWhile (fun b => b != 10)).length) := by
  have h2 : (59 :: r).takeWhile (fun b => b != 10) = 59 :: r.takeWhile (fun b => b != 10) := by rw [List.takeWhile_cons_of_pos]; decide
  rw [h2, List.length_cons, List.drop_succ_cons, skipN, if_pos rfl, skip_line r]
  omega
theorem tokC_skip (l : Bs) (k p : Nat) (h : skipN false l = k + skipN false (l.drop k)) : tokC l p = tokC (l.drop k) (p + k) := by
  unfold tokC
  rw [h, List.drop_drop, Nat.add_assoc]
theorem tokR_skip (pv : Bs → Option (Int × Int × Bs)) (F F' : Nat) (st : StT) (l : Bs) (k p : Nat) (h : skipN false l = k + skipN false (l.drop k)) (hk : k ≤ l.length) (hF : l.length < F) (hF' : (l.drop k).length < F') : tokR pv F st l p = tokR pv F' st (l.drop k) (p + k) := by
  cases F with
  | zero => exact absurd hF (Nat.not_lt_zero _)
  | succ F =>
    cases F' with
    | zero => exact absurd hF' (Nat.not_lt_zero _)
    | succ F' =>
      have hl := tokC_less (l.drop k) (p + k)
      have hd : (l.drop k).length ≤ l.length := by rw [List.length_drop]; omega
      have hs := tokC_skip l k p h
      cases ht : tokC (l.drop k) (p + k) with
      | fin q => rw [tokR_fin (hs.trans ht), tokR_fin ht]
      | flt b => rw [tokR_flt (hs.trans ht), tokR_flt ht]
      | cls c r q =>
        rw [ht] at hl
        have hr : r.length < (l.drop k).length := by rcases hl with ⟨_, e⟩ | ⟨_, e⟩ | e; cases e; cases e; exact e
        cases ho : st.open_ with
        | nil => rw [tokR_cls0 (hs.trans ht) ho, tokR_cls0 ht ho]
        | cons x o =>
          obtain ⟨k', c', a, l'⟩ := x
          rw [tokR_cls (hs.trans ht) ho, tokR_cls ht ho, tokR_more pv F F' _ r _ (by omega) (by omega)]
      | opn k' c r q =>
        rw [ht] at hl
        have hr : r.length < (l.drop k).length := by rcases hl with ⟨_, e⟩ | ⟨_, e⟩ | e; cases e; cases e; exact e
        rw [tokR_opn (hs.trans ht), tokR_opn ht, tokR_more pv F F' _ r _ (by omega) (by omega)]
      | wrd w t q =>
        rw [ht] at hl
        have hr : t.length < (l.drop k).length := by rcases hl with ⟨_, e⟩ | ⟨_, e⟩ | e; cases e; cases e; exact e
        rw [tokR_wrd (hs.trans ht), tokR_wrd ht]
        cases wordOf pv w q with
        | none => rfl
        | some x =>
          dsimp only
          rw [tokR_more pv F F' _ t _ (by omega) (by omega)]
/-- the two readers' states -/
structure Lnk (S : Bs) (st : StT) (a : List Nd × Ops × Nat) : Prop where
  done : a.1 = st.done.map (ndOf S)
  open_ : a.2.1 = (st.open_.map fun y => (y.1, posL (S.take y.2.2.1) (1, 1), y.2.2.2.map (ndOf S))).reverse
  size : a.2.2 = st.size
  cls : ∀ y ∈ st.open_, closeV y.1 = (y.2.1.toNat : Int)
  deep : st.open_.length ≤ 50
  many : st.size ≤ 5000
theorem Lnk.add {S : Bs} {st : StT} {a : List Nd × Ops × Nat} (h : Lnk S st a) (x : PN) : Lnk S (st.add x) ((putA a.1 a.2.1 (ndOf S x)).1, (putA a.1 a.2.1 (ndOf S x)).2, a.2.2) := by
  obtain ⟨hs, h2⟩ := StT.add_open st x
  rcases h2 with ⟨g, g2⟩ | ⟨k, c, p, l, o, g, g2⟩
  · have ho : a.2.1 = [] := by rw [h.open_, g]; rfl
    rw [ho, putA_nil, g2]
    refine ⟨?_, ?_, h.size, ?_, ?_, h.many⟩
    · show a.1 ++ [ndOf S x] = (st.done ++ [x]).map _
      rw [List.map_append, h.done]
      rfl
    · show ([] : Ops) = (st.open_.map _).reverse
      rw [g]; rfl
    · exact h.cls
    · exact h.deep
  · have ho : a.2.1 = (o.map fun y => (y.1, posL (S.take y.2.2.1) (1, 1), y.2.2.2.map (ndOf S))).reverse ++ [(k, posL (S.take p) (1, 1), l.map (ndOf S))] := by rw [h.open_, g, List.map_cons, List.reverse_cons]
    rw [ho, putA_snoc, g2]
    refine ⟨h.done, ?_, h.size, ?_, ?_, h.many⟩
    · show _ = (List.map _ ((k, c, p, l ++ [x]) :: o)).reverse
      rw [List.map_cons, List.reverse_cons, List.map_append]
      rfl
    · intro y hy
      rcases List.mem_cons.1 hy with rfl | hy
      · exact h.cls (k, c, p, l) (by rw [g]; exact List.mem_cons_self ..)
      · exact h.cls y (by rw [g]; exact List.mem_cons_of_mem _ hy)
    · have := h.deep
      rw [g] at this
      exact this
theorem openC_some {c : UInt8} {kc : Int × UInt8} (h : openC c = some kc) : closeV kc.1 = (kc.2.toNat : Int) := by
  unfold openC at h
  by_cases h1 : c = 40
  · rw [if_pos h1] at h; cases h; rfl
  rw [if_neg h1] at h
  by_cases h2 : c = 91
  · rw [if_pos h2] at h; cases h; rfl
  rw [if_neg h2] at h
  by_cases h3 : c = 123
  · rw [if_pos h3] at h; cases h; rfl
  · rw [if_neg h3] at h; cases h
theorem ext_list (s : ByteArray) (k : Nat) : (s.extract k s.size).data.toList = s.data.toList.drop k := Lib.extract_to_end s k
theorem fits_bad (k : Int) (t : Bs) : badB k t = (k == 0 && !fitsB t) := by
  cases t with
  | nil => show false = (k == 0 && !true); simp
  | cons b r =>
    show (k == 0 && !inB bhdS b) = (k == 0 && !fitC b)
    rfl
theorem wordOf_nodeD (S w : Bs) (q : Nat) (x : ByteArray) (hx : x.data.toList = w) : nodeD (0, x, posL (S.take q) (1, 1)) = (wordOf pvL w q).map (ndOf S) := by
  unfold nodeD wordOf
  rw [if_neg (by simp)]
  show (match pvL x.data.toList with | some v => _ | none => _) = _
  rw [hx]
  cases pvL w with
  | some v => show some _ = some (ndOf S _); rw [ndOf_mk]; rfl
  | none =>
    dsimp only
    rw [nam_one]
    by_cases hn : namR w = true
    · rw [if_pos hn, if_pos hn]
      show some _ = some (ndOf S _)
      rw [ndOf_mk]
      have : x = ⟨w.toArray⟩ := by rw [← hx]
      rw [this]
      rfl
    · rw [if_neg hn, if_neg hn]
      rfl
/-- what comes of both -/
def SameR (S : Bs) : Sum Tk (List Nd × Ops × Nat) → Rd (List PN) → Prop
  | .inl x, .bad b => x.2.2 = posL (S.take b) (1, 1)
  | .inr a, .ok l _ _ _ => a.1 = l.map (ndOf S)
  | _, _ => False
theorem posL_on (S : Bs) (q k : Nat) : posL ((S.drop q).take k) (posL (S.take q) (1, 1)) = posL (S.take (q + k)) (1, 1) := by
  rw [← posL_append, ← List.take_add]
theorem tell_is (S : Bs) : ∀ (n : Nat) (s' : ByteArray) (q f F : Nat) (st : StT) (a : List Nd × Ops × Nat), s'.size ≤ n → s'.size < f → s'.size < F → s'.data.toList = S.drop q → Lnk S st a →
    SameR S (runA (tellB f s' (posL (S.take q) (1, 1))) a) (tokR pvL F st (S.drop q) q) := by
  intro n
  induction n with
  | zero =>
    intro s' q f F st a hn hf hF hs hL
    have hnil : s'.data.toList = [] := by
      rw [← List.length_eq_zero_iff, Array.length_toList]
      show s'.size = 0
      omega
    obtain ⟨f, rfl⟩ : ∃ g, f = g + 1 := ⟨f - 1, by omega⟩
    obtain ⟨F, rfl⟩ : ∃ g, F = g + 1 := ⟨F - 1, by omega⟩
    rw [tellB_nil hnil]
    rw [hnil] at hs
    have ht : tokC (S.drop q) q = .fin q := by rw [← hs]; rfl
    rw [tokR_fin ht]
    show SameR S (match takeA a.1 a.2.1 a.2.2 (3, ⟨#[]⟩, posL (S.take q) (1, 1)) with | none => .inl _ | some st' => runA [] st') _
    have htk : takeA a.1 a.2.1 a.2.2 (3, ⟨#[]⟩, posL (S.take q) (1, 1)) = if a.2.1.length = 0 then some (a.1, a.2.1, a.2.2) else none := by unfold takeA; rw [if_neg (by decide : ¬ (3 : Int) = 1), if_neg (by decide : ¬ (3 : Int) = 0), if_neg (by decide : ¬ (3 : Int) = 2), if_pos (rfl : (3 : Int) = 3)]
    rw [htk]
    have hlen : a.2.1.length = st.open_.length := by rw [hL.open_, List.length_reverse, List.length_map]
    by_cases h0 : st.open_ = []
    · rw [if_pos (by rw [hlen, h0]; rfl), if_pos h0]
      exact hL.done
    · rw [if_neg (by rw [hlen]; exact fun e => h0 (List.length_eq_zero_iff.1 e)), if_neg h0]
      rfl
  | succ n ih =>
    intro s' q f F st a hn hf hF hs hL
    cases hcr : s'.data.toList with
    | nil => exact ih s' q f F st a (by have : s'.data.toList.length = s'.size := Array.length_toList; rw [hcr] at this; simp at this; omega) hf hF hs hL
    | cons c r =>
      have hlen : s'.data.toList.length = s'.size := Array.length_toList
      have hS : S.drop q = c :: r := by rw [← hs, hcr]
      obtain ⟨f, rfl⟩ : ∃ g, f = g + 1 := ⟨f - 1, by omega⟩
      have hdl : (S.drop q).length = s'.size := by rw [← hs, hlen]
      have step : ∀ (k : Nat), 0 < k → k ≤ s'.size → ∀ (F2 : Nat) (st2 : StT) (a2 : List Nd × Ops × Nat), (s'.size - k) < F2 → Lnk S st2 a2 → SameR S (runA (tellB f (s'.extract k s'.size) (posL (s'.data.toList.take k) (posL (S.take q) (1, 1)))) a2) (tokR pvL F2 st2 (S.drop (q + k)) (q + k)) := fun k hk hks F2 st2 a2 hF2 hL2 => by
        have hz : (s'.extract k s'.size).size = s'.size - k := by rw [ByteArray.size_extract]; omega
        rw [hs, posL_on]
        exact ih (s'.extract k s'.size) (q + k) f F2 st2 a2 (by omega) (by omega) (by omega) (by rw [ext_list, hs, List.drop_drop]) hL2
      by_cases h59 : c = 59
      · subst h59
        rw [tellB_rem hcr]
        obtain ⟨k, hk⟩ : ∃ k, (s'.data.toList.takeWhile (fun b => b != 10)).length = k := ⟨_, rfl⟩
        have hkp : 0 < k ∧ k ≤ s'.size := by
          have h1 : (s'.data.toList.takeWhile (fun b => b != 10)).length ≤ s'.data.toList.length := (List.takeWhile_prefix _).length_le
          refine ⟨?_, by rw [← hk, ← hlen]; exact h1⟩
          rw [← hk, hcr, List.takeWhile_cons_of_pos (by decide)]
          exact Nat.succ_pos _
        rw [hk]
        have hsk : skipN false (S.drop q) = k + skipN false ((S.drop q).drop k) := by rw [hS, ← hk, hcr]; exact skip_rem r
        rw [tokR_skip pvL F F st (S.drop q) k q hsk (by omega) (by omega) (by rw [List.length_drop]; omega), List.drop_drop]
        exact step k hkp.1 hkp.2 F st a (by omega) hL
      · by_cases hbl : inB blkS c = true
        · rw [tellB_blk hcr h59 hbl]
          obtain ⟨k, hk⟩ : ∃ k, begP (inB blkS) s'.data.toList = k := ⟨_, rfl⟩
          have hkp : 0 < k ∧ k ≤ s'.size := by
            have h1 := begP_le (inB blkS) s'.data.toList
            refine ⟨?_, by rw [← hk, ← hlen]; exact h1⟩
            rw [← hk, hcr]
            unfold begP
            rw [List.takeWhile_cons_of_pos hbl]
            exact Nat.succ_pos _
          rw [hk]
          have hsk : skipN false (S.drop q) = k + skipN false ((S.drop q).drop k) := by rw [hS, ← hk, hcr]; exact skip_blank _
          rw [tokR_skip pvL F F st (S.drop q) k q hsk (by omega) (by omega) (by rw [List.length_drop]; omega), List.drop_drop]
          exact step k hkp.1 hkp.2 F st a (by omega) hL
        · have hbl' : inB blkS c = false := by simpa using hbl
          have hbc : blankC c = false := by
            rw [← inB_blank c]; exact hbl'
          have hsk0 : skipN false (c :: r) = 0 := by rw [skipN, if_neg h59, if_neg (by rw [hbc]; exact Bool.false_ne_true)]
          have htok : tokC (S.drop q) q = (match openC c with
              | some kc => .opn kc.1 kc.2 r q
              | none => if closeC c then .cls c r q else match wordN (c :: r) with
                | none => .flt (q + (c :: r).length)
                | some 0 => .flt q
                | some (n + 1) => .wrd ((c :: r).take (n + 1)) ((c :: r).drop (n + 1)) q) := by
            unfold tokC
            rw [hS, hsk0]
            rfl
          obtain ⟨F, rfl⟩ : ∃ g, F = g + 1 := ⟨F - 1, by omega⟩
          have hlnk : a.2.1.length = st.open_.length := by rw [hL.open_, List.length_reverse, List.length_map]
          have hpos : 0 < s'.size := by rw [← hlen, hcr]; exact Nat.succ_pos _
          have hr1 : r.length = s'.size - 1 := by rw [← hlen, hcr, List.length_cons]; omega
          have hd1 : S.drop (q + 1) = r := by rw [← List.drop_drop, hS]; rfl
          cases hop : openC c with
          | some kc =>
            rw [hop] at htok
            have hm : measL s'.data.toList = (1, 1) := by rw [hcr, measL_cons, hop]; rfl
            rw [tellB_tok hcr h59 hbl' (by rw [hm]; decide), hm, fits_bad]
            rw [if_neg (by simp), tokR_opn htok]
            have hx : (s'.extract 0 1).data.toList = [c] := by rw [ext0_list, hcr]; rfl
            have hnd : nodeD (1, s'.extract 0 1, posL (S.take q) (1, 1)) = some (.mk kc.1 0 0 ⟨#[]⟩ ⟨#[]⟩ [] ((posL (S.take q) (1, 1)).1 : Int) ((posL (S.take q) (1, 1)).2 : Int)) := by
              unfold nodeD
              rw [if_pos rfl]
              show some (Nd.mk ((openC ((s'.extract 0 1).data.toList.headD 0)).getD (0, 0)).1 _ _ _ _ _ _ _) = _
              rw [hx]
              show some (Nd.mk ((openC c).getD (0, 0)).1 _ _ _ _ _ _ _) = _
              rw [hop]
              rfl
            show SameR S (match takeA a.1 a.2.1 a.2.2 (1, s'.extract 0 1, posL (S.take q) (1, 1)) with | none => .inl _ | some st' => runA _ st') _
            have htk : takeA a.1 a.2.1 a.2.2 (1, s'.extract 0 1, posL (S.take q) (1, 1)) = if a.2.1.length = 50 then none else if a.2.2 = 5000 then none else some (a.1, a.2.1 ++ [(kc.1, posL (S.take q) (1, 1), [])], a.2.2 + 1) := by
              unfold takeA
              rw [if_pos rfl]
              unfold beginA
              rw [hnd]
              dsimp only
              rw [if_pos rfl]
              rfl
            rw [htk, hlnk, hL.size]
            by_cases h50 : st.open_.length = 50
            · rw [if_pos h50, if_pos (.inl (by omega))]
              rfl
            · by_cases h5 : st.size = 5000
              · rw [if_neg h50, if_pos h5, if_pos (.inr (by omega))]
                rfl
              · have hdp := hL.deep
                have hmn := hL.many
                rw [if_neg h50, if_neg h5, if_neg (by omega)]
                have h9 := step 1 (by omega) hpos F { st with open_ := (kc.1, kc.2, q, []) :: st.open_, size := st.size + 1 } (a.1, a.2.1 ++ [(kc.1, posL (S.take q) (1, 1), [])], st.size + 1) (by omega) ⟨hL.done, by
                  show a.2.1 ++ _ = (List.map _ (_ :: st.open_)).reverse
                  rw [List.map_cons, List.reverse_cons, hL.open_]
                  rfl, rfl, fun y hy => by
                    rcases List.mem_cons.1 hy with rfl | hy
                    · exact openC_some hop
                    · exact hL.cls y hy, by show st.open_.length + 1 ≤ 50; omega, by show st.size + 1 ≤ 5000; omega⟩
                rw [hd1] at h9
                exact h9
          | none =>
            rw [hop] at htok
            dsimp only at htok
            by_cases hcl : closeC c = true
            · rw [if_pos hcl] at htok
              have hm : measL s'.data.toList = (2, 1) := by rw [hcr, measL_cons, hop, if_neg (by decide), if_pos hcl]
              rw [tellB_tok hcr h59 hbl' (by rw [hm]; decide), hm, fits_bad]
              rw [if_neg (by simp)]
              have hx : (s'.extract 0 1).data.toList = [c] := by rw [ext0_list, hcr]; rfl
              show SameR S (match takeA a.1 a.2.1 a.2.2 (2, s'.extract 0 1, posL (S.take q) (1, 1)) with | none => .inl _ | some st' => runA _ st') _
              have htk : takeA a.1 a.2.1 a.2.2 (2, s'.extract 0 1, posL (S.take q) (1, 1)) = closeA a.1 a.2.1 a.2.2 c := by
                unfold takeA
                rw [if_neg (by decide : ¬ (2 : Int) = 1), if_neg (by decide : ¬ (2 : Int) = 0), if_pos (rfl : (2 : Int) = 2)]
                show closeA _ _ _ ((s'.extract 0 1).data.toList.headD 0) = _
                rw [hx]
                rfl
              rw [htk]
              unfold closeA
              cases ho : st.open_ with
              | nil =>
                rw [tokR_cls0 htok ho, show a.2.1 = [] by rw [hL.open_, ho]; rfl]
                rfl
              | cons y o =>
                obtain ⟨k, c', p, l⟩ := y
                rw [tokR_cls htok ho]
                have hrev : a.2.1.reverse = (k, posL (S.take p) (1, 1), l.map (ndOf S)) :: (o.map fun y => (y.1, posL (S.take y.2.2.1) (1, 1), y.2.2.2.map (ndOf S))) := by rw [hL.open_, List.reverse_reverse, ho]; rfl
                rw [hrev]
                dsimp only
                have hcv := hL.cls (k, c', p, l) (by rw [ho]; exact List.mem_cons_self ..)
                replace hcv : closeV k = (c'.toNat : Int) := hcv
                by_cases hcc : c' = c
                · subst hcc
                  rw [if_pos hcv, if_pos rfl]
                  have hL2 : Lnk S { st with open_ := o } (a.1, (o.map fun y => (y.1, posL (S.take y.2.2.1) (1, 1), y.2.2.2.map (ndOf S))).reverse, a.2.2) := ⟨hL.done, rfl, hL.size, fun y hy => hL.cls y (by rw [ho]; exact List.mem_cons_of_mem _ hy), by have := hL.deep; rw [ho] at this; exact Nat.le_of_succ_le this, hL.many⟩
                  have h9 := step 1 (by omega) hpos F _ _ (by omega) (hL2.add (.mk k 0 0 [] [] l p))
                  rw [hd1, ndOf_mk] at h9
                  exact h9
                · rw [if_neg (by rw [hcv]; exact fun e => hcc (UInt8.toNat_inj.1 (by omega))), if_neg hcc]
                  rfl
            · rw [if_neg hcl] at htok
              cases hwn : wordN (c :: r) with
              | none =>
                rw [hwn] at htok
                dsimp only at htok
                have hm : measL s'.data.toList = (4, (c :: r).length) := by rw [hcr, measL_cons, hop, if_neg (by decide), if_neg hcl, hwn]
                rw [tellB_flt hcr h59 hbl' (by rw [hm]), hm, tokR_flt htok]
                show (posL (s'.data.toList.take (c :: r).length) (posL (S.take q) (1, 1))) = _
                rw [hs, posL_on]
              | some n =>
                rw [hwn] at htok
                cases n with
                | zero =>
                  dsimp only at htok
                  have hm : measL s'.data.toList = (4, 0) := by rw [hcr, measL_cons, hop, if_neg (by decide), if_neg hcl, hwn]
                  rw [tellB_flt hcr h59 hbl' (by rw [hm]), hm, tokR_flt htok]
                  rfl
                | succ n =>
                  dsimp only at htok
                  have hm : measL s'.data.toList = (0, n + 1) := by rw [hcr, measL_cons, hop, if_neg (by decide), if_neg hcl, hwn]
                  have hml : n + 1 ≤ s'.size := by have := measL_le s'.data.toList; rw [hm, hlen] at this; exact this
                  have hx : (s'.extract 0 (n + 1)).data.toList = (c :: r).take (n + 1) := by rw [ext0_list, hcr]
                  have hwl : ((c :: r).take (n + 1)).length = n + 1 := by rw [List.length_take, ← hcr, hlen]; omega
                  have hdr : s'.data.toList.drop (n + 1) = (c :: r).drop (n + 1) := by rw [hcr]
                  rw [tellB_tok hcr h59 hbl' (by rw [hm]; show (0 : Int) ≠ 4; decide), hm, fits_bad, tokR_wrd htok]
                  show SameR S (match takeA a.1 a.2.1 a.2.2 (0, s'.extract 0 (n + 1), posL (S.take q) (1, 1)) with | none => .inl _ | some st' => runA _ st') _
                  have htk : takeA a.1 a.2.1 a.2.2 (0, s'.extract 0 (n + 1), posL (S.take q) (1, 1)) = match wordOf pvL ((c :: r).take (n + 1)) q with
                      | none => none
                      | some x => if a.2.2 = 5000 then none else some ((putA a.1 a.2.1 (ndOf S x)).1, (putA a.1 a.2.1 (ndOf S x)).2, a.2.2 + 1) := by
                    unfold takeA
                    rw [if_neg (by decide : ¬ (0 : Int) = 1), if_pos (rfl : (0 : Int) = 0)]
                    unfold beginA
                    rw [wordOf_nodeD S _ q _ hx]
                    cases wordOf pvL ((c :: r).take (n + 1)) q with
                    | none => rfl
                    | some x => dsimp only [Option.map]; rw [if_neg (by decide : ¬ (0 : Int) = 1)]
                  rw [htk, hL.size]
                  cases hw : wordOf pvL ((c :: r).take (n + 1)) q with
                  | none =>
                    dsimp only
                    by_cases h5 : 5000 ≤ st.size
                    · rw [if_pos h5]; rfl
                    · rw [if_neg h5]; rfl
                  | some x =>
                    dsimp only
                    have hmn := hL.many
                    by_cases h5 : st.size = 5000
                    · rw [if_pos h5, if_pos (show 5000 ≤ st.size by omega)]; rfl
                    · rw [if_neg h5, if_neg (show ¬ 5000 ≤ st.size by omega)]
                      dsimp only
                      have hL2 : Lnk S { st with size := st.size + 1 } (a.1, a.2.1, st.size + 1) := ⟨hL.done, hL.open_, rfl, hL.cls, hL.deep, by show st.size + 1 ≤ 5000; omega⟩
                      have hL3 := hL2.add x
                      rw [hdr, hwl]
                      by_cases hfit : fitsB ((c :: r).drop (n + 1)) = true
                      · rw [if_neg (by rw [hfit]; decide), if_pos hfit]
                        have h9 := step (n + 1) (by omega) hml F _ _ (by omega) hL3
                        rw [show S.drop (q + (n + 1)) = (c :: r).drop (n + 1) by rw [← List.drop_drop, hS]] at h9
                        exact h9
                      · have hfit' : fitsB ((c :: r).drop (n + 1)) = false := by simpa using hfit
                        rw [if_pos (by rw [hfit']; rfl), if_neg hfit]
                        show SameR S (match takeA (putA a.1 a.2.1 (ndOf S x)).1 (putA a.1 a.2.1 (ndOf S x)).2 (st.size + 1) (4, ⟨#[]⟩, posL (s'.data.toList.take (n + 1)) (posL (S.take q) (1, 1))) with | none => .inl _ | some st' => runA [] st') _
                        have htk4 : ∀ (d : List Nd) (o : Ops) (z : Nat) (p : Nat × Nat), takeA d o z (4, ⟨#[]⟩, p) = none := fun d o z p => by
                          unfold takeA
                          rw [if_neg (by decide : ¬ (4 : Int) = 1), if_neg (by decide : ¬ (4 : Int) = 0), if_neg (by decide : ¬ (4 : Int) = 2), if_neg (by decide : ¬ (4 : Int) = 3)]
                        rw [htk4]
                        show posL (s'.data.toList.take (n + 1)) (posL (S.take q) (1, 1)) = _
                        rw [hs, posL_on]
/-- the program's Parse is the document's nodes, in lists -/
theorem parse_doc (s : ByteArray) : SameR s.data.toList (runA (tellB (s.size + 1) s (1, 1)) ([], [], 0)) (nodesD pvL (s.size + 1) none s.data.toList 0 0 0) := by
  have h1 := tell_is s.data.toList s.size s 0 (s.size + 1) (s.size + 1) ⟨[], [], 0⟩ ([], [], 0) (Nat.le_refl _) (Nat.lt_succ_self _) (Nat.lt_succ_self _) (by rw [List.drop_zero]) ⟨rfl, rfl, rfl, (fun y hy => by cases hy), Nat.zero_le _, Nat.zero_le _⟩
  rw [List.drop_zero] at h1
  have hl : s.data.toList.length = s.size := Array.length_toList
  obtain ⟨i1, i2⟩ := tok_is pvL (s.size + 1) none s.data.toList 0 0 0 ⟨[], [], 0⟩ (s.size + 1) (by omega) (by omega) rfl rfl (.inl ⟨rfl, rfl⟩)
  cases hn : nodesD pvL (s.size + 1) none s.data.toList 0 0 0 with
  | bad b =>
    rw [i1 b hn] at h1
    exact h1
  | ok l s2 p2 m2 =>
    obtain ⟨_, e⟩ := (i2 l s2 p2 m2 hn).1 rfl
    rw [e] at h1
    cases hr : runA (tellB (s.size + 1) s (posL (List.take 0 s.data.toList) (1, 1))) ([], [], 0) with
    | inl x => rw [hr] at h1; exact h1.elim
    | inr a =>
      rw [hr] at h1
      rw [show (1, 1) = posL (List.take 0 s.data.toList) (1, 1) from rfl, hr]
      exact h1
end Go.Proofs.YthbighnkohjfnaaGreatDoor
