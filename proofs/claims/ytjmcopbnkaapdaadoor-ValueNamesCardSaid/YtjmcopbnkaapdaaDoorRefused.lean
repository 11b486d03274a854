/-
  CONTRACT of the law's refused; texts that no value has.
-/
import Derived.Test.YtjmcopbnkaapdaaDoorVBack
namespace Go.Proofs.YtjmcopbnkaapdaaDoor
open Go.RowKit Go.Shelf

/-- no value has this text -/
def NoTxt (l : List UInt8) : Prop := ∀ (k n : Int) (t : ByteArray), mayB k n t = true → inI64 n → txtL k n t ≠ l

theorem no_empty : NoTxt [] := fun _ _ _ hm _ h => txt_ne hm h
theorem no_int {c : UInt8} {rest : List UInt8} (c1 : c.toNat ≠ 116) (c2 : c.toNat ≠ 102) (c3 : c.toNat ≠ 64) (c4 : c.toNat ≠ 33) (c5 : c.toNat ≠ 58) (c6 : c.toNat ≠ 35) (c7 : c.toNat ≠ 34)
    (h : ∀ n, inI64 n → c :: rest ≠ Lib.itoa n) : NoTxt (c :: rest) := fun _ n _ hm hx hl => h n hx ((heads_of hm hl).i1 c1 c2 c3 c4 c5 c6 c7).2.2
theorem ne_itoa_head {c : UInt8} {rest : List UInt8} (h : ¬ (c.toNat = 45 ∨ (48 ≤ c.toNat ∧ c.toNat ≤ 57))) (n : Int) : c :: rest ≠ Lib.itoa n := fun e => h (itoa_head e.symm)
theorem ne_itoa_parse {l : List UInt8} (h : ∀ n, Lib.parseIntB 64 l = .ok n → l ≠ Lib.itoa n) (n : Int) (hx : inI64 n) : l ≠ Lib.itoa n := fun e =>
  h n (by rw [e]; exact parse_itoa n hx.1 hx.2) e

theorem no_negzero : NoTxt [45, 48] := no_int (by decide) (by decide) (by decide) (by decide) (by decide) (by decide) (by decide) (ne_itoa_parse fun n h => by
  have h0 : Lib.parseIntB 64 [45, 48] = .ok 0 := by decide +kernel
  rw [h0] at h
  injection h with h
  subst h
  simp [Lib.itoa, Lib.decDigits])
theorem no_plus : NoTxt [43, 49] := no_int (by decide) (by decide) (by decide) (by decide) (by decide) (by decide) (by decide) (fun n _ => ne_itoa_head (by decide) n)
theorem no_negref : NoTxt [64, 45, 49] := fun k n t hm hx hl => by
  obtain ⟨rfl, rfl, h⟩ := (heads_of hm hl).r64 rfl
  have hp := parse_itoa n hx.1 hx.2
  rw [← h, show Lib.parseIntB 64 [45, 49] = .ok (-1) from by decide +kernel] at hp
  injection hp with hp
  subst hp
  exact absurd hm (by decide)
theorem no_bigref : NoTxt [64, 57, 48, 48, 55, 49, 57, 57, 50, 53, 52, 55, 52, 48, 57, 57, 50] := fun k n t hm hx hl => by
  obtain ⟨rfl, rfl, h⟩ := (heads_of hm hl).r64 rfl
  have hp := parse_itoa n hx.1 hx.2
  rw [← h, show Lib.parseIntB 64 [57, 48, 48, 55, 49, 57, 57, 50, 53, 52, 55, 52, 48, 57, 57, 50] = .ok 9007199254740992 from by decide +kernel] at hp
  injection hp with hp
  subst hp
  exact absurd hm (by decide)
theorem no_open : NoTxt [34, 97] := fun k n t hm hx hl => by
  obtain ⟨_, _, h⟩ := (heads_of hm hl).q34 rfl
  have := congrArg List.getLast? h
  simp at this
theorem no_quote : NoTxt [34] := fun k n t hm hx hl => by
  obtain ⟨_, _, h⟩ := (heads_of hm hl).q34 rfl
  simp at h
theorem no_half : NoTxt [35, 48] := fun k n t hm hx hl => by
  obtain ⟨_, _, h⟩ := (heads_of hm hl).b35 rfl
  have hl2 : ∀ l : List UInt8, flatL hexL l ≠ [48] := fun l => by
    cases l with
    | nil => simp [flatL]
    | cons c r => simp [flatL, hexL]
  exact hl2 _ h
theorem no_upper : NoTxt [58, 65] := fun k n t hm hx hl => by
  obtain ⟨rfl, rfl, h⟩ := (heads_of hm hl).w58 rfl
  have ht : t = ⟨#[65]⟩ := ByteArray.ext (Array.toList_inj.1 (by rw [← h]))
  subst ht
  exact absurd hm (by decide)
theorem no_plainesc : NoTxt [34, 92, 54, 49, 34] := fun k n t hm hx hl => by
  obtain ⟨_, _, h⟩ := (heads_of hm hl).q34 rfl
  have h2 : flatL escL t.data.toList = [] ++ 92 :: [54, 49] := List.append_cancel_right (show flatL escL t.data.toList ++ [34] = [92, 54, 49] ++ [34] from h)
  obtain ⟨d, t', h3, h4⟩ := esc_found [] t.data.toList [54, 49] (fun c hc => by simp at hc) h2
  have h5 := rhL_hexL d (flatL escL t')
  rw [← h4, show rhL [54, 49] = (97, true) from by decide +kernel] at h5
  have hd : d = 97 := by injection h5 with h6 _; exact h6.symm
  rw [h3, hd] at h2
  have h7 : (97 : UInt8) :: flatL escL t' = 92 :: [54, 49] := h2
  injection h7 with h8 _
  exact absurd h8 (by decide)
theorem no_bigint : NoTxt [57, 50, 50, 51, 51, 55, 50, 48, 51, 54, 56, 53, 52, 55, 55, 53, 56, 48, 56] := no_int (by decide) (by decide) (by decide) (by decide) (by decide) (by decide) (by decide) (ne_itoa_parse fun n h => by
  have h0 : (match Lib.parseIntB 64 [57, 50, 50, 51, 51, 55, 50, 48, 51, 54, 56, 53, 52, 55, 55, 53, 56, 48, 56] with | .ok _ => true | _ => false) = false := by decide +kernel
  rw [h] at h0
  cases h0)

end Go.Proofs.YtjmcopbnkaapdaaDoor
