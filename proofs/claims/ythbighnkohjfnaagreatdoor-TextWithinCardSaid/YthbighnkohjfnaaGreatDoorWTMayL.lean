/-
  CONTRACT: may nodes be? (allMayBe at every depth, mayBe).
-/
import Derived.Test.YthbighnkohjfnaaGreatDoorWTMayN
namespace Go.Proofs.YthbighnkohjfnaaGreatDoor
open Go.RowKit

/-- the contract of allMayBe's closure, of one node -/
theorem may1_any (d : Nat) (hA : AllC d) (x : Nd) (K : Option Addr) (kc deep q : Nat) (w : World) (B : Nat → Prop) (hx : BxI w q deep) (hk : SlN d w B K x.kids) (hB : ∀ g, B g → g < w.heap.size) (ht : txN x) (hd : deep ≤ 50) :
    Calls Tryz.prog 61 #[ndV x.k x.vk x.vn x.vs x.s K x.kids.length kc x.ln x.co, .pointer (some ⟨q, 0, none⟩)] w fun e w' => e = .returned (.bool (!mayNd deep x)) ∧ Below w.heap.size w w' := by
  have hb1 : Below w.heap.size w (w.alloc (.cells #[.int .i64 x.k, .int .i64 x.vk, .int .i64 x.vn, .string x.vs, .string x.s, .slice K x.kids.length kc, .int .i64 x.ln, .int .i64 x.co] 37)) := (Below.refl _ _).alloc (Nat.le_refl _) _
  obtain ⟨n0, n1, n2, n3, n4, n5, n6, n7⟩ := nd_cells (NdB.new w x.k x.vk x.vn x.vs x.s K x.kids.length kc x.ln x.co)
  have hM := nodeMay_any d hA x K kc deep (w.alloc (.cells #[.int .i64 x.k, .int .i64 x.vk, .int .i64 x.vn, .string x.vs, .string x.s, .slice K x.kids.length kc, .int .i64 x.ln, .int .i64 x.co] 37)) B (hk.keep fun g hg => hb1.block g (hB g hg)) (fun g hg => Nat.lt_of_lt_of_le (hB g hg) hb1.size) ht hd
  have c0 := (hx.next hb1).cell
  have HM := Lib.hid hM
  have HB1 := Lib.hid hb1
  clear hM hb1 hx hk hB
  unfold ndV at HM ⊢
  go_enter Tryz.func61, Tryz.ntmps61
  go_wp2_with fail
  refine HM.out.mono ?_
  rintro e w2 ⟨rfl, hb2⟩
  go_wp2
  go_ret
  exact ⟨rfl, HB1.out.trans (hb2.mono HB1.out.size)⟩
set_option maxRecDepth 100000 in
set_option maxHeartbeats 1000000 in
theorem indexM_any (d : Nat) (A : Option Addr) (c : Nat) (l : List Nd) (hA : l ≠ [] → AllC d) (deep q : Nat) (w : World) (B : Nat → Prop) (hs : SlN (d + 1) w B A l) (hB : ∀ g, B g → g < w.heap.size) (hx : BxI w q deep) (ht : txL l) (hd : deep ≤ 50) :
    Calls Tryz.prog 77 #[.slice A l.length c, .func (.func 61) #[] #[.pointer (some ⟨q, 0, none⟩)]] w fun e w' => (∃ k : Int, e = .returned (.int .i64 k) ∧ (mayNds deep l = false ∧ 0 ≤ k ∨ mayNds deep l = true ∧ k = -1)) ∧ Below w.heap.size w w' := by
  have hl := hs.len
  have HS := Lib.hid hs
  have HT := Lib.hid ht
  have HBB := Lib.hid hB
  have HX := Lib.hid hx
  have HA := Lib.hid hA
  have HL := Lib.hid (mayNds_all deep l)
  clear hs ht hB hx hA
  go_enter Tryz.func77, Tryz.ntmps77
  go_wp2
  go_loopg [5, 8] l.length (fun g _ y wr => ∃ j : Nat, y = .int .i64 j ∧ j + g = l.length ∧ Hid ((l.take j).all (mayNd deep) = true) ∧ Hid (Below w.heap.size w wr))
  case atStart => exact ⟨0, rfl, by omega, rfl, Below.refl _ _⟩
  case round =>
    obtain ⟨j, rfl, hj, HN, HB⟩ := hrel
    cases gk with
    | zero =>
      have hjz : ¬ ((j : Int) < (l.length : Int)) := by omega
      have HE : Hid (mayNds deep l = true) := by
        show _ = _
        rw [HL.out]
        have := HN.out
        rwa [List.take_of_length_le (by omega)] at this
      go_wp2
      go_ret
      exact ⟨⟨_, rfl, .inr ⟨HE.out, rfl⟩⟩, HB.out⟩
    | succ g =>
      have hjz : (j : Int) < (l.length : Int) := by omega
      have hjn : j < l.length := by omega
      have hbw : ∀ g, B g → wr.heap[g]? = w.heap[g]? := fun g hg => HB.out.block g (HBB.out g hg)
      obtain ⟨ba, o, K, kc, rfl, _, hp, hk⟩ := (HS.out.keep hbw).at_ hjn
      have hts := List.take_succ_eq_append_getElem hjn
      obtain ⟨x, hse⟩ : ∃ s, l[j] = s := ⟨_, rfl⟩
      have hmem : x ∈ l := by rw [← hse]; exact List.getElem_mem hjn
      rw [hse] at hp hk hts
      have c0 : wr.cell? ⟨ba, o + j * 8, none⟩ = some (.int .i64 x.k) := hp 0 (by decide)
      have c1 : wr.cell? ⟨ba, o + j * 8 + 1, none⟩ = some (.int .i64 x.vk) := hp 1 (by decide)
      have c2 : wr.cell? ⟨ba, o + j * 8 + 2, none⟩ = some (.int .i64 x.vn) := hp 2 (by decide)
      have c3 : wr.cell? ⟨ba, o + j * 8 + 3, none⟩ = some (.string x.vs) := hp 3 (by decide)
      have c4 : wr.cell? ⟨ba, o + j * 8 + 4, none⟩ = some (.string x.s) := hp 4 (by decide)
      have c5 : wr.cell? ⟨ba, o + j * 8 + 5, none⟩ = some (.slice K x.kids.length kc) := hp 5 (by decide)
      have c6 : wr.cell? ⟨ba, o + j * 8 + 6, none⟩ = some (.int .i64 x.ln) := hp 6 (by decide)
      have c7 : wr.cell? ⟨ba, o + j * 8 + 7, none⟩ = some (.int .i64 x.co) := hp 7 (by decide)
      have hM := may1_any d (HA.out fun e => by rw [e] at hjn; exact absurd hjn (Nat.not_lt_zero _)) x K kc deep q wr B (HX.out.next HB.out) hk (fun g hg => Nat.lt_of_lt_of_le (HBB.out g hg) HB.out.size) (txL_mem HT.out x hmem) hd
      unfold ndV at hM
      have HM := Lib.hid hM
      have HTS := Lib.hid hts
      have HMEM := Lib.hid hmem
      have hbz := HB.out.size
      clear hp hse hts hmem hbw hk hM
      cases hv : mayNd deep x
      · rw [hv] at HM
        have HE : Hid (mayNds deep l = false) := by show _ = _; rw [HL.out, List.all_eq_false]; exact ⟨x, HMEM.out, by rw [hv]; exact Bool.false_ne_true⟩
        clear hv
        go_wp2_with fail
        refine HM.out.mono ?_
        rintro e w9 ⟨rfl, hb9⟩
        have HB9 := Lib.hid (HB.out.trans (hb9.mono hbz))
        clear hb9 c0 c1 c2 c3 c4 c5 c6 c7
        go_wp2
        go_ret
        exact ⟨⟨_, rfl, .inl ⟨HE.out, by omega⟩⟩, HB9.out⟩
      · rw [hv] at HM
        have HST : Hid ((l.take (j + 1)).all (mayNd deep) = true) := by show _ = _; rw [HTS.out, List.all_append, HN.out]; simp [hv]
        clear hv
        go_wp2_with fail
        refine HM.out.mono ?_
        rintro e w9 ⟨rfl, hb9⟩
        have HB9 := Lib.hid (HB.out.trans (hb9.mono hbz))
        clear hb9 c0 c1 c2 c3 c4 c5 c6 c7
        go_wp2
        go_roundg g
        case measure => omega
        case rel => exact ⟨j + 1, by go_num, by omega, HST.out, HB9.out⟩
set_option maxHeartbeats 1000000 in
theorem containsM_any (d : Nat) (A : Option Addr) (c : Nat) (l : List Nd) (hA : l ≠ [] → AllC d) (deep q : Nat) (w : World) (B : Nat → Prop) (hs : SlN (d + 1) w B A l) (hB : ∀ g, B g → g < w.heap.size) (hx : BxI w q deep) (ht : txL l) (hd : deep ≤ 50) :
    Calls Tryz.prog 60 #[.slice A l.length c, .func (.func 61) #[] #[.pointer (some ⟨q, 0, none⟩)]] w fun e w' => e = .returned (.bool (!mayNds deep l)) ∧ Below w.heap.size w w' := by
  have HI := Lib.hid (indexM_any d A c l hA deep q w B hs hB hx ht hd)
  clear hs hB hx hA ht
  go_enter Tryz.func60, Tryz.ntmps60
  go_wp2_with fail
  refine HI.out.mono ?_
  rintro e w1 ⟨⟨k, rfl, hk⟩, hb1⟩
  have HK := Lib.hid hk
  clear hk
  go_wp2
  go_ret
  refine ⟨congrArg (fun b : Bool => Ending.returned (Value.bool b)) ?_, hb1⟩
  rcases HK.out with ⟨h1, h2⟩ | ⟨h1, rfl⟩
  · rw [h1]; exact decide_eq_true h2
  · rw [h1]; rfl
set_option maxHeartbeats 1000000 in
theorem all_one (d : Nat) (A : Option Addr) (c : Nat) (l : List Nd) (hA : l ≠ [] → AllC d) (deep : Nat) (w : World) (B : Nat → Prop) (hs : SlN (d + 1) w B A l) (hB : ∀ g, B g → g < w.heap.size) (ht : txL l) (hd : deep ≤ 50) :
    Calls Tryz.prog 45 #[.slice A l.length c, .int .i64 (deep : Int)] w fun e w' => e = .returned (.bool (mayNds deep l)) ∧ Below w.heap.size w w' := by
  have hb1 : Below w.heap.size w (w.alloc (.cells #[.int .i64 (deep : Int)] 3)) := (Below.refl _ _).alloc (Nat.le_refl _) _
  have hx1 : BxI (w.alloc (.cells #[.int .i64 (deep : Int)] 3)) w.heap.size deep := heap_alloc_new w _
  have hC := containsM_any d A c l hA deep w.heap.size (w.alloc (.cells #[.int .i64 (deep : Int)] 3)) B (hs.keep fun g hg => hb1.block g (hB g hg)) (fun g hg => Nat.lt_of_lt_of_le (hB g hg) hb1.size) hx1 ht hd
  have HC := Lib.hid hC
  have HB1 := Lib.hid hb1
  clear hC hb1 hx1 hs hB hA ht
  go_enter Tryz.func45, Tryz.ntmps45
  go_wp2_with fail
  refine HC.out.mono ?_
  rintro e w2 ⟨rfl, hb2⟩
  go_wp2
  go_ret
  exact ⟨rfl, HB1.out.trans (hb2.mono HB1.out.size)⟩
theorem all_any (d : Nat) : AllC d := by
  induction d with
  | zero => exact fun A c l deep w B hs hB ht hd => all_one 0 A c l (fun h => absurd (show l = [] from hs) h) deep w B hs.deeper hB ht hd
  | succ d ih => exact fun A c l deep w B hs hB ht hd => all_one d A c l (fun _ => ih) deep w B hs hB ht hd
/-- may nodes be? -/
def mayL (l : List Nd) : Bool := decide (szL l ≤ 5000) && mayNds 0 l
set_option maxHeartbeats 1000000 in
theorem mayL_any (d : Nat) (A : Option Addr) (c : Nat) (l : List Nd) (w : World) (B : Nat → Prop) (hs : SlN d w B A l) (hB : ∀ g, B g → g < w.heap.size) (ht : txL l) :
    Calls Tryz.prog 26 #[.slice A l.length c] w fun e w' => e = .returned (.bool (mayL l)) ∧ Below w.heap.size w w' := by
  have HZ := Lib.hid (size_any d A c l w B hs hB)
  have HC := Lib.hid (fun W (hb : Below w.heap.size w W) => all_any d A c l 0 W B (hs.keep fun g hg => hb.block g (hB g hg)) (fun g hg => Nat.lt_of_lt_of_le (hB g hg) hb.size) ht (Nat.zero_le _))
  clear hs hB ht
  obtain ⟨R, hR⟩ : ∃ R, mayL l = R := ⟨_, rfl⟩
  rw [hR]
  unfold mayL at hR
  go_enter Tryz.func26, Tryz.ntmps26
  by_cases h5 : szL l ≤ 5000
  · have hR2 := Lib.hid hR
    have hd : decide (((min (szL l) 5001 : Nat) : Int) ≤ 5000) = true := decide_eq_true (by omega)
    have HH := Lib.hid h5
    clear hR h5
    go_wp2_with fail
    refine HZ.out.mono ?_
    rintro e w1 ⟨rfl, hb1⟩
    have HB1 := Lib.hid hb1
    clear hb1
    go_wp2_with fail
    refine (HC.out _ HB1.out).mono ?_
    rintro e w2 ⟨rfl, hb2⟩
    go_wp2
    go_ret
    refine ⟨congrArg (fun b : Bool => Ending.returned (Value.bool b)) ?_, HB1.out.trans (hb2.mono HB1.out.size)⟩
    rw [← hR2.out, decide_eq_true HH.out, Bool.true_and]
  · have hR2 := Lib.hid hR
    have hd : decide (((min (szL l) 5001 : Nat) : Int) ≤ 5000) = false := decide_eq_false (by omega)
    have HH := Lib.hid h5
    clear hR h5
    go_wp2_with fail
    refine HZ.out.mono ?_
    rintro e w1 ⟨rfl, hb1⟩
    go_wp2
    go_ret
    refine ⟨congrArg (fun b : Bool => Ending.returned (Value.bool b)) ?_, hb1⟩
    rw [← hR2.out, decide_eq_false HH.out, Bool.false_and]
end Go.Proofs.YthbighnkohjfnaaGreatDoor
