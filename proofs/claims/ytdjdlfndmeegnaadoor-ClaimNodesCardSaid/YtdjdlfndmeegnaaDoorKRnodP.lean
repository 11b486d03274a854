/-
  The document's node: plain facts.
-/
import Derived.Test.YtdjdlfndmeegnaaDoorKPrts
import Derived.Test.YtdjdlfndmeegnaaDoorKRefF
import Derived.Test.YtdjdlfndmeegnaaDoorRegion
import Derived.Deep.RegionHeld3
import Derived.Deep.RegionWith
namespace Go.Proofs.YtdjdlfndmeegnaaDoor
open Go.RowKit
open Go.Deep

/-- a node's kids, its span said or not -/
def kidS (f : Fm) (sp : Bool) : List Nd :=
  namN (opS f.op) :: entN f.e :: ((if f.op = 3 then [] else [valN 7 0 f.a]) ++ ((if f.op = 4 then [trmN f.old] else []) ++ ((if f.op = 3 then [] else [trmN f.v]) ++ (if sp then [prN (valN 6 f.fr eB) (valN 6 f.til eB)] else []))))
theorem kidS_L (f : Fm) : kidS f (!(decide (f.fr = minT) && decide (f.til = maxT))) = kidL f := by
  unfold kidS kidL spnL
  by_cases h1 : f.fr = minT <;> by_cases h2 : f.til = maxT <;> simp [h1, h2]
/-- a form in its box, the node to be answered, and the forms' names -/
structure SBs (w : World) (cs : Array Value) (t : TypeId) (W : World) : Prop where
  s : SBx w cs t W
  n : Blk W (w.heap.size + 2) #[.string ⟨#[]⟩, .string ⟨#[97, 100, 100]⟩, .string ⟨#[99, 117, 116]⟩, .string ⟨#[103, 111, 110, 101]⟩, .string ⟨#[115, 119, 97, 112]⟩] 9
theorem SBs.next {w : World} {cs : Array Value} {t : TypeId} {W W' : World} (h : SBs w cs t W) (hb : Below W.heap.size W W') : SBs w cs t W' :=
  ⟨h.s.next hb, h.n.next hb h.n.lt⟩
theorem SBs.new (w : World) (cs : Array Value) (t : TypeId) : SBs w cs t (((w.alloc (.cells cs t)).alloc (.cells #[.int .i64 0, .int .i64 0, .int .i64 0, .string ⟨#[]⟩, .string ⟨#[]⟩, .slice none 0 0, .int .i64 0, .int .i64 0] 35)).alloc (.cells #[.string ⟨#[]⟩, .string ⟨#[97, 100, 100]⟩, .string ⟨#[99, 117, 116]⟩, .string ⟨#[103, 111, 110, 101]⟩, .string ⟨#[115, 119, 97, 112]⟩] 9)) :=
  ⟨(sbx_new w cs t).next ((Below.refl _ _).alloc (Nat.le_refl _) _), by
    have h := Blk.new ((w.alloc (.cells cs t)).alloc (.cells #[.int .i64 0, .int .i64 0, .int .i64 0, .string ⟨#[]⟩, .string ⟨#[]⟩, .slice none 0 0, .int .i64 0, .int .i64 0] 35)) #[.string ⟨#[]⟩, .string ⟨#[97, 100, 100]⟩, .string ⟨#[99, 117, 116]⟩, .string ⟨#[103, 111, 110, 101]⟩, .string ⟨#[115, 119, 97, 112]⟩] 9
    rwa [World.size_alloc, World.size_alloc] at h⟩
theorem Gat.two (W : World) (x y : Nd) (K : Option Addr) (c lo : Nat) (hx : x.k = 2) (hxk : x.kids = []) (hlo : lo ≤ W.heap.size) (hy : SlN 1 W (Fr lo W) K y.kids) :
    Gat lo (W.alloc (.cells #[.int .i64 x.k, .int .i64 x.vk, .int .i64 x.vn, .string x.vs, .string x.s, .slice none x.kids.length 0, .int .i64 x.ln, .int .i64 x.co, .int .i64 y.k, .int .i64 y.vk, .int .i64 y.vn, .string y.vs, .string y.s, .slice K y.kids.length c, .int .i64 y.ln, .int .i64 y.co] 35)) (.slice (some ⟨W.heap.size, 0, none⟩) 2 2) [(x, none, 0), (y, K, c)] :=
  ⟨World.ownsRow_lit W _ 2 hlo (by decide) rfl, fun p hp => by
    rcases List.mem_cons.1 hp with rfl | hp
    · show SlN 1 _ _ none x.kids
      rw [hxk]
      exact SlN.nil _ _ _ _
    · obtain rfl : p = (y, K, c) := by simpa using hp
      have hb := (Below.refl W.heap.size W).alloc (Nat.le_refl _) (.cells #[.int .i64 x.k, .int .i64 x.vk, .int .i64 x.vn, .string x.vs, .string x.s, .slice none x.kids.length 0, .int .i64 x.ln, .int .i64 x.co, .int .i64 y.k, .int .i64 y.vk, .int .i64 y.vn, .string y.vs, .string y.s, .slice K y.kids.length c, .int .i64 y.ln, .int .i64 y.co] 35)
      exact hy.fr (fun b hB => hb.block b hB.2.1) hb.size (Nat.le_refl _), ⟨_, _, rfl, hx⟩⟩
/-- what the document's node answers -/
def RnEnd (f : Fm) (sp : Bool) (W : World) (e : Ending) (w' : World) : Prop :=
  ∃ K c, e = .returned (.agg #[.int .i64 3, .int .i64 0, .int .i64 0, .string ⟨#[]⟩, .string ⟨#[]⟩, .slice K (kidS f sp).length c, .int .i64 0, .int .i64 0]) ∧ SlN 2 w' (fun b => W.heap.size ≤ b ∧ b < w'.heap.size) K (kidS f sp) ∧ Below W.heap.size W w'

end Go.Proofs.YtdjdlfndmeegnaaDoor
