import Derived.Test.YtlmihlepaoifiaaJOBkPure
import Derived.Test.YtlmihlepaoifiaaJOParts
import Derived.Test.YtlmihlepaoifiaaJORdRead
/-
  PLAIN FACTS: Read of a key; Key of what is read.
-/
namespace Go.Proofs.Ytlmihlepaoifiaa
open Go.RowKit Go.Shelf

end Go.Proofs.Ytlmihlepaoifiaa

/-
  PLAIN FACTS on datoms: their parts in an order, their keys, how two stand.
-/
namespace Go.Proofs.Ytlmihlepaoifiaa

structure Dat where
  e : Int
  a : Int
  k : Int
  m : Int
  s : ByteArray
  t : Int
  add : Bool
  fr : Int
  til : Int
def numP (n : Int) : PartP := ⟨false, n, 0, 0, ⟨#[]⟩⟩
def cutN (b : Bool) : Int := if b then 0 else 1
def entB (n : Int) : Bool := decide (0 ≤ n ∧ n < 9007199254740992)
def mayD (d : Dat) : Bool := entB d.e && entB d.a && mayB d.k d.m d.s && decide (1 ≤ d.t ∧ d.t ≤ 1099511627776) && decide (d.fr < d.til)
def i64B (n : Int) : Prop := -9223372036854775808 ≤ n ∧ n ≤ 9223372036854775807
structure DatOk (d : Dat) : Prop where
  e : i64B d.e
  a : i64B d.a
  k : i64B d.k
  m : i64B d.m
  t : i64B d.t
  fr : i64B d.fr
  til : i64B d.til

end Go.Proofs.Ytlmihlepaoifiaa
