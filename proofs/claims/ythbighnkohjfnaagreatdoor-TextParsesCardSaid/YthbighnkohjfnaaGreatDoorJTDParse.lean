/-
  CONTRACT: the document's reader (layer 5): nodes at every fuel; Parse.
-/
import Derived.Test.YthbighnkohjfnaaGreatDoorJTDNds
import Derived.Test.YthbighnkohjfnaaGreatDoorJTDNode
namespace Go.Proofs.YthbighnkohjfnaaGreatDoor
open Go.RowKit

theorem nodes_all (f : Nat) : NodesC f := Nat.strongRecOn f fun f ih => nodes_of f fun g hg => node_of g (ih g hg)
/-- what the document's Parse leaves -/
def ParseD (w : World) (s : ByteArray) (e : Ending) (w' : World) : Prop :=
  (match nodesD pvL (s.size + 1) none s.data.toList 0 0 0 with
    | .bad p => e = .returned (.tuple #[.slice none 0 0, .int .i64 ((posL (s.data.toList.take p) (1, 1)).1 : Int), .int .i64 ((posL (s.data.toList.take p) (1, 1)).2 : Int), .int .i64 50])
    | .ok l _ _ _ => ∃ A c, e = .returned (.tuple #[.slice A l.length c, .int .i64 0, .int .i64 0, .int .i64 0]) ∧ SlN 51 w' (fun g => w.heap.size ≤ g ∧ g < w'.heap.size) A (l.map (ndOf s.data.toList))) ∧ Below w.heap.size w w'
theorem BxD.new (W : World) (s : ByteArray) : BxD (W.alloc (.cells #[.string s, .int .i64 0, .int .i64 0, .int .i64 0, .int .i64 (-1)] 50)) W.heap.size s 0 0 0 (-1) := heap_alloc_new W _
theorem results_tmp4 {fn : Func} {t u v x : Tmp} (h : fn.results = #[.tmp t, .tmp u, .tmp v, .tmp x]) (tmps : Array Value) (P : Program) (w : World) :
    (results fn tmps).run P w = .ok (.tuple #[tmps.getD t undef, tmps.getD u undef, tmps.getD v undef, tmps.getD x undef]) w := by
  simp [results, h]
set_option maxRecDepth 100000 in
set_option maxHeartbeats 4000000 in
theorem docParse_any (s : ByteArray) (w : World) (hs : s.size ≤ 20000) : Calls Tryz.prog 7 #[.string s] w (ParseD w s) := by
  have hx0 := BxD.new w s
  have hb0 : Below w.heap.size w (w.alloc (.cells #[.string s, .int .i64 0, .int .i64 0, .int .i64 0, .int .i64 (-1)] 50)) := (Below.refl _ _).alloc (Nat.le_refl _) _
  have hN : Calls Tryz.prog 20 #[.pointer (some ⟨w.heap.size, 0, none⟩), .int .u8 0] (w.alloc (.cells #[.string s, .int .i64 0, .int .i64 0, .int .i64 0, .int .i64 (-1)] 50)) (NdsEnd (s.size + 1) w.heap.size none s 0 0 0 (w.alloc (.cells #[.string s, .int .i64 0, .int .i64 0, .int .i64 0, .int .i64 (-1)] 50))) :=
    nodes_all (s.size + 1) w.heap.size none s 0 0 0 _ hx0 (Nat.zero_le _) hs (Nat.zero_le _) (Nat.zero_le _) (fun c hc => by cases hc) (by omega)
  have HN := Lib.hid hN
  have HB0 := Lib.hid hb0
  have HS := Lib.hid hs
  have HZ : Hid ((w.alloc (.cells #[.string s, .int .i64 0, .int .i64 0, .int .i64 0, .int .i64 (-1)] 50)).heap.size = w.heap.size + 1) := by show _ = _; simp
  clear hN hb0 hs hx0
  go_enter Tryz.func7, Tryz.ntmps7
  go_wp2_with fail
  refine HN.out.mono ?_
  rintro e w2 ⟨ho, hm⟩
  have HBE : Hid (Below w.heap.size w w2) := by
    show Below _ _ _
    refine (HB0.out.trans (ho.bel.mono (by have := HZ.out; omega))).mono ?_ 
    exact Nat.le_refl _
  rw [List.drop_zero] at hm
  clear ho HN
  cases hq : nodesD pvL (s.size + 1) none s.data.toList 0 0 0 with
  | bad p =>
    rw [hq] at hm
    obtain ⟨⟨A, n, c, rfl⟩, hp, a2, m2, hx2⟩ := hm
    obtain ⟨⟨c0, c1, c2, c3, c4⟩, f1, f2, f3, f4⟩ := bx_cells hx2
    have h1 : decide ((0 : Int) ≤ (p : Int)) = true := decide_eq_true (by omega)
    have HPL := Lib.hid (fun W => refPlace_any s p W (by have := HS.out; omega) hp)
    have HQ := Lib.hid hq
    clear hq
    go_wp2_with fail
    refine (HPL.out _).mono ?_
    rintro e3 w3 ⟨rfl, rfl⟩
    go_wp2
    (try simp only [Exit.inBlock, Exit.then])
    refine bodyPost_ret (results_tmp4 rfl _ _ _) rfl ?_
    refine ⟨?_, HBE.out⟩
    rw [HQ.out]
    rfl
  | ok l s2 p2 m2 =>
    rw [hq] at hm
    obtain ⟨_, _, _, _, ⟨A, c, rfl, hsl⟩, hx2⟩ := hm
    obtain ⟨⟨c0, c1, c2, c3, c4⟩, f1, f2, f3, f4⟩ := bx_cells hx2
    have h1 : decide ((0 : Int) ≤ (-1 : Int)) = false := decide_eq_false (by omega)
    have HQ := Lib.hid hq
    have HSL := Lib.hid hsl
    clear hq hsl
    go_wp2
    (try simp only [Exit.inBlock, Exit.then])
    refine bodyPost_ret (results_tmp4 rfl _ _ _) rfl ?_
    refine ⟨?_, HBE.out⟩
    rw [HQ.out]
    exact ⟨A, c, rfl, HSL.out.mono fun g hg => ⟨by have := HZ.out; omega, hg.2⟩⟩
end Go.Proofs.YthbighnkohjfnaaGreatDoor
