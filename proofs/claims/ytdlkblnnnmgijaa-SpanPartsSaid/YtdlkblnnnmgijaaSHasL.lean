/-
  THE LAW SpanHas: its walk.
-/
import Derived.Test.YtdlkblnnnmgijaaSAlive
import Derived.Test.YtdlkblnnnmgijaaSHas
namespace Go.Proofs.Ytdlkblnnnmgijaa
open Go.RowKit Go.Shelf

theorem told_set {f : Nat → Bool} {a b l : List Sp} (h : chosenL f a b l) (ha : setB a = true) (hb : setB b = true) (hka : ∀ s ∈ a, SpOk s) (hkb : ∀ s ∈ b, SpOk s) : setB l = true ∧ (∀ s ∈ l, SpOk s) ∧ ∀ x, minT ≤ x → innB l x = decide (wants f (innB a x) (innB b x)) := by
  obtain ⟨r, hr, rfl⟩ := h
  obtain ⟨h1, h2, h3⟩ := told_pick hr (live_of ha hka) (live_of hb hkb) (Int.le_refl _) f [] setL_nil (fun _ h => by cases h)
  refine ⟨decide_eq_true h1, h2, fun x hx => ?_⟩
  unfold innB
  rw [decide_eq_decide]
  refine (h3 x).trans ⟨fun k => ?_, fun k => .inr ⟨hx, k⟩⟩
  rcases k with k | k
  · omega
  · exact k.2
theorem wantsAnd_is (x y : Bool) : decide (wants wantsAnd x y) = (x && y) := by cases x <;> cases y <;> decide
theorem wantsMinus_is (x y : Bool) : decide (wants wantsMinus x y) = (x && !y) := by cases x <;> cases y <;> decide
theorem wantsOr_is (x y : Bool) : decide (wants wantsOr x y) = (x || y) := by cases x <;> cases y <;> decide
theorem inn_max {l : List Sp} {t : Int} (hk : ∀ s ∈ l, SpOk s) (ht : t = 9223372036854775807) : innB l t = false := decide_eq_false fun ⟨s, hs, _, h2⟩ => by
  have := (hk s hs).2.2
  unfold maxT at this
  omega
theorem has_is (A : Option Addr) (c : Nat) (l : List Sp) (t : Int) (w : World) (v : Bool) (hv : (setB l && innB l t) = v) (hs : SlS w w.heap.size A l) (hl : l.length ≤ 100000) :
    Calls Try.prog 42 #[.slice A l.length c, .int .i64 t] w fun e w' => e = .returned (.bool v) ∧ Below w.heap.size w w' := by
  subst hv; exact has_any A c l t w hs hl
/-- an answer of Or, And, Minus, in slots' words -/
def chN (a b : List Sp) : Int := if (setB a && setB b) = true then 0 else 30
theorem chEnd_at {W W' : World} {f : Nat → Bool} {a b : List Sp} {e : Ending} (h : ChEnd W f a b e W') : (∃ A c l, e = .returned (.tuple #[.slice A l.length c, .int .i64 (chN a b)]) ∧ SlS W' W'.heap.size A l ∧ l.length ≤ c ∧ c ≤ maxLen ∧ ((setB a && setB b) = true → chosenL f a b l) ∧ l.length ≤ 2 * a.length + 2 * b.length) ∧ Below W.heap.size W W' := by
  obtain ⟨⟨h1, h2, l, v, h3, h4, rfl, h5⟩ | ⟨h1, rfl⟩, hb⟩ := h
  · obtain ⟨A, c, rfl, hs, k1, k2⟩ := h5.sls
    refine ⟨⟨A, c, l, ?_, hs, k1, k2, fun _ => h3, h4⟩, hb⟩
    unfold chN
    rw [h1, h2]; rfl
  · refine ⟨⟨none, 0, [], ?_, slS_nil _ _, Nat.le_refl _, Nat.zero_le _, fun h => (by rw [h1] at h; cases h), Nat.zero_le _⟩, hb⟩
    unfold chN
    rw [h1]; rfl

set_option maxRecDepth 100000 in
set_option maxHeartbeats 4000000 in
theorem hasL_any (A A' : Option Addr) (c c' : Nat) (a b : List Sp) (t : Int) (w : World) (hs : SlS w w.heap.size A a) (hs' : SlS w w.heap.size A' b) (hlc : a.length ≤ c) (hc : c ≤ maxLen) (hlc' : b.length ≤ c') (hc' : c' ≤ maxLen)
    (hka : ∀ s ∈ a, SpOk s) (hkb : ∀ s ∈ b, SpOk s) (ht : -9223372036854775808 ≤ t ∧ t ≤ 9223372036854775807) :
    Calls Try.prog 11 #[.slice A a.length c, .slice A' b.length c', .int .i64 t] w fun e w' => e = .returned (.bool true) ∧ Below w.heap.size w w' := by
  have HS := Lib.hid (And.intro hs hs')
  have HL := Lib.hid (And.intro (And.intro hlc hc) (And.intro hlc' hc'))
  have HK := Lib.hid (And.intro hka hkb)
  clear hs hs' hlc hc hlc' hc' hka hkb
  go_enter Try.func11, Try.ntmps11
  go_wp2_with fail
  refine (aliveS_any _).mono ?_
  rintro e w1 ⟨rfl, hb1⟩
  have HB1 := Lib.hid hb1
  clear hb1
  by_cases h1 : (60 : Int) < (a.length : Int)
  · go_wp2
    go_ret
    exact ⟨rfl, HB1.out⟩
  by_cases h2 : (60 : Int) < (b.length : Int)
  · go_wp2
    go_ret
    exact ⟨rfl, HB1.out⟩
  have HSN : Hid (∀ W, Below w.heap.size w W → SlS W W.heap.size A a ∧ SlS W W.heap.size A' b) := fun W h => ⟨(HS.out.1.next h (Nat.le_refl _)).more h.size, (HS.out.2.next h (Nat.le_refl _)).more h.size⟩
  have hll : 2 * a.length + 2 * b.length ≤ 1000 := by omega
  go_wp2_with fail
  refine (spanAnd_any A A' c c' a b _ (HSN.out _ HB1.out).1 (HSN.out _ HB1.out).2 HL.out.1.1 HL.out.1.2 HL.out.2.1 HL.out.2.2 hll HK.out.1 HK.out.2).mono ?_
  rintro e w2 he
  obtain ⟨⟨NA, nc, nl, rfl, hn1, _, _, hn2, hn3⟩, hb⟩ := chEnd_at he
  have HB2 := Lib.hid (HB1.out.trans (hb.mono HB1.out.size))
  have HN := Lib.hid (And.intro hn1 hn2)
  have hnl : nl.length ≤ 1000 := by omega
  clear he hb hn1 hn2 hn3
  go_wp2_with fail
  refine (spanMinus_any A A' c c' a b _ (HSN.out _ HB2.out).1 (HSN.out _ HB2.out).2 HL.out.1.1 HL.out.1.2 HL.out.2.1 HL.out.2.2 hll HK.out.1 HK.out.2).mono ?_
  rintro e w3 he
  obtain ⟨⟨MA, mc, ml, rfl, hn1, _, _, hn2, hn3⟩, hb⟩ := chEnd_at he
  have HB3 := Lib.hid (HB2.out.trans (hb.mono HB2.out.size))
  have HM := Lib.hid (And.intro hn1 hn2)
  have HN3 := Lib.hid ((HN.out.1.next hb (Nat.le_refl _)).more hb.size)
  have hml : ml.length ≤ 1000 := by omega
  clear he hb hn1 hn2 hn3
  go_wp2_with fail
  refine (spanOr_any A A' c c' a b _ (HSN.out _ HB3.out).1 (HSN.out _ HB3.out).2 HL.out.1.1 HL.out.1.2 HL.out.2.1 HL.out.2.2 hll HK.out.1 HK.out.2).mono ?_
  rintro e w4 he
  obtain ⟨⟨OA, oc, ol, rfl, hn1, _, _, hn2, hn3⟩, hb⟩ := chEnd_at he
  have HB4 := Lib.hid (HB3.out.trans (hb.mono HB3.out.size))
  have HO4 := Lib.hid hn1
  have HN4 := Lib.hid ((HN3.out.next hb (Nat.le_refl _)).more hb.size)
  have HM4 := Lib.hid ((HM.out.1.next hb (Nat.le_refl _)).more hb.size)
  have HCH := Lib.hid (And.intro HN.out.2 (And.intro HM.out.2 hn2))
  have hol : ol.length ≤ 1000 := by omega
  clear he hb hn1 hn2 hn3 HN HM HN3
  cases hset : (setB a && setB b)
  · have HCN : Hid (chN a b = 30) := by show _ = _; unfold chN; rw [hset]; rfl
    clear hset
    rw [HCN.out]
    go_wp2
    go_ret
    exact ⟨rfl, HB4.out⟩
  · have HCN : Hid (chN a b = 0) := by show _ = _; unfold chN; rw [hset]; rfl
    have hab := Bool.and_eq_true_iff.1 hset
    have hx := told_set (HCH.out.1 hset) hab.1 hab.2 HK.out.1 HK.out.2
    have hy := told_set (HCH.out.2.1 hset) hab.1 hab.2 HK.out.1 HK.out.2
    have hz := told_set (HCH.out.2.2 hset) hab.1 hab.2 HK.out.1 HK.out.2
    have HXA := Lib.hid (show (setB a && innB a t) = innB a t from by rw [hab.1]; rfl)
    have HXB := Lib.hid (show (setB b && innB b t) = innB b t from by rw [hab.2]; rfl)
    have HXN := Lib.hid (show (setB nl && innB nl t) = (innB a t && innB b t) from by rw [hx.1, hx.2.2 t ht.1, wantsAnd_is]; rfl)
    have HXM := Lib.hid (show (setB ml && innB ml t) = (innB a t && !innB b t) from by rw [hy.1, hy.2.2 t ht.1, wantsMinus_is]; rfl)
    have HXO := Lib.hid (show (setB ol && innB ol t) = (innB a t || innB b t) from by rw [hz.1, hz.2.2 t ht.1, wantsOr_is]; rfl)
    have HMX := Lib.hid (fun h => inn_max (t := t) HK.out.1 h)
    clear hset hab hx hy hz
    obtain ⟨xa, hxa⟩ : ∃ x, innB a t = x := ⟨_, rfl⟩
    obtain ⟨xb, hxb⟩ : ∃ x, innB b t = x := ⟨_, rfl⟩
    have HXA := Lib.hid (HXA.out.trans hxa)
    have HXB := Lib.hid (HXB.out.trans hxb)
    rw [hxa] at HXN HXM HXO HMX
    rw [hxb] at HXN HXM HXO
    clear hxa hxb
    rw [HCN.out]
    go_wp2_with fail
    refine (has_is A c a t _ xa HXA.out (HSN.out _ HB4.out).1 (by omega)).mono ?_
    rintro e w5 ⟨rfl, hb⟩
    have HB5 := Lib.hid (HB4.out.trans (hb.mono HB4.out.size))
    have HN5 := Lib.hid ((HN4.out.next hb (Nat.le_refl _)).more hb.size)
    have HM5 := Lib.hid ((HM4.out.next hb (Nat.le_refl _)).more hb.size)
    have HO5 := Lib.hid ((HO4.out.next hb (Nat.le_refl _)).more hb.size)
    clear hb HN4 HM4 HO4
    go_wp2_with fail
    refine (has_is A' c' b t _ xb HXB.out (HSN.out _ HB5.out).2 (by omega)).mono ?_
    rintro e w6 ⟨rfl, hb⟩
    have HB6 := Lib.hid (HB5.out.trans (hb.mono HB5.out.size))
    have HN6 := Lib.hid ((HN5.out.next hb (Nat.le_refl _)).more hb.size)
    have HM6 := Lib.hid ((HM5.out.next hb (Nat.le_refl _)).more hb.size)
    have HO6 := Lib.hid ((HO5.out.next hb (Nat.le_refl _)).more hb.size)
    clear hb HN5 HM5 HO5
    cases xa
    · cases xb
      · have HBB := HB6
        have K1 : Hid ((setB nl && innB nl t) = false) := HXN.out
        have K2 : Hid ((setB ml && innB ml t) = false) := HXM.out
        have K3 : Hid ((setB ol && innB ol t) = false) := HXO.out
        go_wp2_with fail
        refine (has_is NA nc nl t _ false K1.out HN6.out (by omega)).mono ?_
        rintro e w7 ⟨rfl, hb⟩
        have HB7 := Lib.hid (HB6.out.trans (hb.mono HB6.out.size))
        have HM7 := Lib.hid ((HM6.out.next hb (Nat.le_refl _)).more hb.size)
        have HO7 := Lib.hid ((HO6.out.next hb (Nat.le_refl _)).more hb.size)
        clear hb
        go_wp2_with fail
        refine (has_is MA mc ml t _ false K2.out HM7.out (by omega)).mono ?_
        rintro e w8 ⟨rfl, hb⟩
        have HB8 := Lib.hid (HB7.out.trans (hb.mono HB7.out.size))
        have HO8 := Lib.hid ((HO7.out.next hb (Nat.le_refl _)).more hb.size)
        clear hb
        go_wp2_with fail
        refine (has_is OA oc ol t _ false K3.out HO8.out (by omega)).mono ?_
        rintro e w9 ⟨rfl, hb⟩
        have HB9 := Lib.hid (HB8.out.trans (hb.mono HB8.out.size))
        clear hb
        by_cases hmx : t = 9223372036854775807
        · have hm2 : (t != 9223372036854775807) = false := by simpa using hmx
          clear hmx
          go_wp2
          go_ret
          exact ⟨rfl, HB9.out⟩
        · have hm2 : (t != 9223372036854775807) = true := by simpa using hmx
          clear hmx
          go_wp2
          go_ret
          exact ⟨rfl, HB9.out⟩
      · have HBB := HB6
        have K1 : Hid ((setB nl && innB nl t) = false) := HXN.out
        have K2 : Hid ((setB ml && innB ml t) = false) := HXM.out
        have K3 : Hid ((setB ol && innB ol t) = true) := HXO.out
        go_wp2_with fail
        refine (has_is NA nc nl t _ false K1.out HN6.out (by omega)).mono ?_
        rintro e w7 ⟨rfl, hb⟩
        have HB7 := Lib.hid (HB6.out.trans (hb.mono HB6.out.size))
        have HM7 := Lib.hid ((HM6.out.next hb (Nat.le_refl _)).more hb.size)
        have HO7 := Lib.hid ((HO6.out.next hb (Nat.le_refl _)).more hb.size)
        clear hb
        go_wp2_with fail
        refine (has_is MA mc ml t _ false K2.out HM7.out (by omega)).mono ?_
        rintro e w8 ⟨rfl, hb⟩
        have HB8 := Lib.hid (HB7.out.trans (hb.mono HB7.out.size))
        have HO8 := Lib.hid ((HO7.out.next hb (Nat.le_refl _)).more hb.size)
        clear hb
        go_wp2_with fail
        refine (has_is OA oc ol t _ true K3.out HO8.out (by omega)).mono ?_
        rintro e w9 ⟨rfl, hb⟩
        have HB9 := Lib.hid (HB8.out.trans (hb.mono HB8.out.size))
        clear hb
        by_cases hmx : t = 9223372036854775807
        · have hm2 : (t != 9223372036854775807) = false := by simpa using hmx
          clear hmx
          go_wp2
          go_ret
          exact ⟨rfl, HB9.out⟩
        · have hm2 : (t != 9223372036854775807) = true := by simpa using hmx
          clear hmx
          go_wp2
          go_ret
          exact ⟨rfl, HB9.out⟩
    · cases xb
      · have HBB := HB6
        have K1 : Hid ((setB nl && innB nl t) = false) := HXN.out
        have K2 : Hid ((setB ml && innB ml t) = true) := HXM.out
        have K3 : Hid ((setB ol && innB ol t) = true) := HXO.out
        have hmx : (t != 9223372036854775807) = true := by
          rw [bne_iff_ne]
          intro h
          have := HMX.out h
          cases this
        go_wp2_with fail
        refine (has_is NA nc nl t _ false K1.out HN6.out (by omega)).mono ?_
        rintro e w7 ⟨rfl, hb⟩
        have HB7 := Lib.hid (HB6.out.trans (hb.mono HB6.out.size))
        have HM7 := Lib.hid ((HM6.out.next hb (Nat.le_refl _)).more hb.size)
        have HO7 := Lib.hid ((HO6.out.next hb (Nat.le_refl _)).more hb.size)
        clear hb
        go_wp2_with fail
        refine (has_is MA mc ml t _ true K2.out HM7.out (by omega)).mono ?_
        rintro e w8 ⟨rfl, hb⟩
        have HB8 := Lib.hid (HB7.out.trans (hb.mono HB7.out.size))
        have HO8 := Lib.hid ((HO7.out.next hb (Nat.le_refl _)).more hb.size)
        clear hb
        go_wp2_with fail
        refine (has_is OA oc ol t _ true K3.out HO8.out (by omega)).mono ?_
        rintro e w9 ⟨rfl, hb⟩
        have HB9 := Lib.hid (HB8.out.trans (hb.mono HB8.out.size))
        clear hb
        go_wp2
        go_ret
        exact ⟨rfl, HB9.out⟩
      · have HBB := HB6
        have K1 : Hid ((setB nl && innB nl t) = true) := HXN.out
        have K2 : Hid ((setB ml && innB ml t) = false) := HXM.out
        have K3 : Hid ((setB ol && innB ol t) = true) := HXO.out
        have hmx : (t != 9223372036854775807) = true := by
          rw [bne_iff_ne]
          intro h
          have := HMX.out h
          cases this
        go_wp2_with fail
        refine (has_is NA nc nl t _ true K1.out HN6.out (by omega)).mono ?_
        rintro e w7 ⟨rfl, hb⟩
        have HB7 := Lib.hid (HB6.out.trans (hb.mono HB6.out.size))
        have HM7 := Lib.hid ((HM6.out.next hb (Nat.le_refl _)).more hb.size)
        have HO7 := Lib.hid ((HO6.out.next hb (Nat.le_refl _)).more hb.size)
        clear hb
        go_wp2_with fail
        refine (has_is MA mc ml t _ false K2.out HM7.out (by omega)).mono ?_
        rintro e w8 ⟨rfl, hb⟩
        have HB8 := Lib.hid (HB7.out.trans (hb.mono HB7.out.size))
        have HO8 := Lib.hid ((HO7.out.next hb (Nat.le_refl _)).more hb.size)
        clear hb
        go_wp2_with fail
        refine (has_is OA oc ol t _ true K3.out HO8.out (by omega)).mono ?_
        rintro e w9 ⟨rfl, hb⟩
        have HB9 := Lib.hid (HB8.out.trans (hb.mono HB8.out.size))
        clear hb
        go_wp2
        go_ret
        exact ⟨rfl, HB9.out⟩
end Go.Proofs.Ytdlkblnnnmgijaa
