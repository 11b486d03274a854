import Derived.Calls
import Derived.Test.YtofmfainhflmmaaJVOrd
import Derived.Laws.IdiomStrings
import Derived.Laws.OwnMore
import Derived.Laws.AppendOwnNone
import Derived.Lib.SmallJoins
import Derived.Lib.BufferRead
import Derived.Lib.Hide
import Derived.Lib.SliceRun
import Derived.OwnWalk
import Derived.WalkKit
import Derived.ProofKit
import Derived.WalkMore
import Derived.Test.YtofmfainhflmmaaRows
import Derived.OpenShut
import Derived.ShutString
import Derived.ChangeOld
import Derived.ChangeSlices
import Derived.Carry
import Derived.Deep.Slices
/-
  PLAIN FACTS OF THE MACHINE: what has been drawn from the tape is never given back.
-/
namespace Go.Proofs.Ytofmfainhflmmaa
open Go

theorem ask_drawn {α : Type} (q : Ask α) : ∀ w : World, w.drawn ≤ (w.ask q).2.drawn := by
  induction q with
  | done a => intro w; exact Nat.le_refl _
  | ask what range k ih =>
    intro w
    unfold World.ask
    dsimp only
    split
    · exact ih _ _
    · exact Nat.le_trans (Nat.le_succ _) (ih _ { w with drawn := w.drawn + 1 })
theorem sys_drawn (w : World) (c : Sys) : w.drawn ≤ (w.sys c).2.drawn := by
  have h := ask_drawn (Kernel.perform c w.os) w
  unfold World.sys
  generalize w.ask (Kernel.perform c w.os) = r at h
  obtain ⟨⟨a, os⟩, w1⟩ := r
  split
  · exact Nat.le_refl _
  · rename_i heq
    cases heq
    exact h
theorem viewStore_drawn {p : Program} {w w' : World} {a b : Addr} {u : TypeId} {v : Value} {t : Bool} {l : List Addr} (h : w.viewStore p a u b v t = .ok (w', l)) : w'.drawn = w.drawn := by
  unfold World.viewStore at h
  simp only [bind, Except.bind, pure, Except.pure] at h
  repeat' split at h
  all_goals first
    | (cases h; rfl)
    | cases h
theorem farStore_drawn {p : Program} {w w' : World} {a : Addr} {v : Value} {t : Bool} {l : List Addr} (h : w.farStore p a v t = .ok (w', l)) : w'.drawn = w.drawn := by
  unfold World.farStore at h
  split at h
  · split at h
    · rename_i r hr
      cases h
      exact viewStore_drawn hr
    · cases h
  · cases h
def resW {α : Type} : Result α → World
  | .ok _ w => w
  | .halt _ w => w
theorem run_drawn {α : Type} (p : Program) (e : Sem α) : ∀ w : World, w.drawn ≤ (resW (e.run p w)).drawn := by
  induction e with
  | pure a => intro w; exact Nat.le_refl _
  | load m a k ih =>
    intro w
    simp only [Sem.run]
    split
    · exact ih _ w
    · split
      · exact ih _ w
      · exact Nat.le_refl _
  | store m a v k ih =>
    intro w
    cases v <;> simp only [Sem.run] <;>
      first
        | exact Nat.le_refl _
        | (split
           · split
             · exact Nat.le_refl _
             · exact Nat.le_trans (Nat.le_of_eq (by rfl)) (ih _)
           · split
             · rename_i h
               exact Nat.le_trans (Nat.le_of_eq (farStore_drawn h).symm) (ih _)
             · exact Nat.le_refl _)
  | new o k ih => intro w; simp only [Sem.run]; exact Nat.le_trans (Nat.le_of_eq (by rfl)) (ih _ _)
  | shape r k ih => intro w; simp only [Sem.run]; exact ih _ w
  | freeze a n k ih => intro w; simp only [Sem.run]; exact Nat.le_trans (Nat.le_of_eq (by unfold World.freeze; split <;> rfl)) (ih _)
  | frozen a k ih => intro w; simp only [Sem.run]; exact ih _ w
  | getObj r k ih =>
    intro w
    simp only [Sem.run]
    split
    · exact Nat.le_refl _
    · exact ih _ w
    · exact Nat.le_refl _
  | setObj r o k ih =>
    intro w
    simp only [Sem.run]
    split
    · exact Nat.le_refl _
    · exact Nat.le_trans (Nat.le_of_eq (by rfl)) (ih _)
    · exact Nat.le_refl _
  | choose q k ih =>
    intro w
    simp only [Sem.run]
    split
    · exact ih _ w
    · exact Nat.le_trans (Nat.le_succ _) (ih _ { w with drawn := w.drawn + 1 })
  | sys c k ih => intro w; simp only [Sem.run]; exact Nat.le_trans (sys_drawn w c) (ih _ _)
  | program k ih => intro w; simp only [Sem.run]; exact ih _ w
  | mark m k ih => intro w; simp only [Sem.run]; exact ih w
  | halt h => intro w; exact Nat.le_refl _
theorem ok_drawn {α : Type} {p : Program} {e : Sem α} {w w' : World} {a : α} (h : e.run p w = .ok a w') : w.drawn ≤ w'.drawn := by
  have := run_drawn p e w
  rw [h] at this
  exact this
theorem halt_drawn {α : Type} {p : Program} {e : Sem α} {w w' : World} {a : Halt} (h : e.run p w = .halt a w') : w.drawn ≤ w'.drawn := by
  have := run_drawn p e w
  rw [h] at this
  exact this

/-- a step of a goroutine that leads on -/
def leG (n : Nat) : GStep → Prop
  | .go _ w _ => n ≤ w.drawn
  | .comm _ _ _ _ w _ => n ≤ w.drawn
  | .spawn _ _ w _ => n ≤ w.drawn
  | .count _ w _ => n ≤ w.drawn
  | .timer _ _ w _ => n ≤ w.drawn
  | .alone _ _ w _ => n ≤ w.drawn
  | .newcoro _ _ _ w _ => n ≤ w.drawn
  | .coroswitch _ _ _ w _ => n ≤ w.drawn
  | .collect _ w _ => n ≤ w.drawn
  | .watch _ w _ => n ≤ w.drawn
  | .ended _ _ _ => True
theorem leG_after {n : Nat} {es : Array Event} {s : GStep} (h : leG n s) : leG n (GStep.after es s) := by
  cases s <;> exact h
theorem leG_mono {n m : Nat} {s : GStep} (h : leG n s) (hm : m ≤ n) : leG m s := by
  cases s <;> first | exact Nat.le_trans hm h | trivial
theorem endWith_le (n : Nat) (w : World) (fd : Nat) (t : ByteArray) (o : Outcome) : leG n (endWith w fd t o) := by
  unfold endWith
  dsimp only
  split
  · split <;> trivial
  · trivial
  · trivial
theorem dieOf_le (fr : Frame) (l : List ByteArray) (m : String) (b : Bool) (w : World) : leG w.drawn (dieOf fr l m b w) := Nat.le_refl _
theorem endThrow_le (fr : Frame) (m : String) (w : World) : leG w.drawn (endThrow fr m w) := Nat.le_refl _
theorem endPrinting_le (p : Program) (fr : Frame) (v : Value) (w : World) : leG w.drawn (endPrinting p fr v w) := by
  unfold endPrinting
  dsimp only
  split
  · exact endThrow_le _ _ _
  · trivial
theorem endFatal_le (p : Program) (fr : Frame) (cs : List Frame) (d : Option Dying) (m : String) (w : World) : leG w.drawn (endFatal p fr cs d m w) := by
  unfold endFatal
  dsimp only
  split
  · rename_i h
    exact leG_mono (dieOf_le _ _ _ _ _) (ok_drawn h)
  · trivial
  · trivial
theorem writeOn_le (p : Program) (fr : Frame) (d : Dying) (f : Fatal) (w : World) : leG w.drawn (writeOn p fr d f w) := by
  unfold writeOn
  dsimp only
  split
  · trivial
  · simp only [Sem.runT_eq]
    split
    · rename_i h
      exact ok_drawn (congrArg Prod.fst h)
    · rename_i h
      exact halt_drawn (congrArg Prod.fst h)
    · trivial
    · trivial
theorem leG_ite {n : Nat} {c : Prop} [Decidable c] {a b : GStep} (ha : leG n a) (hb : leG n b) : leG n (if c then a else b) := by
  split
  · exact ha
  · exact hb
theorem die_le (p : Program) (fr : Frame) (d : Dying) (w : World) : leG w.drawn (die p fr d w) := by
  unfold die
  split
  · exact writeOn_le _ _ _ _ _
  · split
    · split
      · exact Nat.le_refl _
      · exact endWith_le _ _ _ _ _
    · dsimp only
      split
      · exact Nat.le_refl _
      · split
        · rename_i h
          exact ok_drawn h
        · trivial
      · simp only [Sem.runT_eq]
        refine leG_after ?_
        split
        · rename_i h
          exact ok_drawn h
        · rename_i h
          exact ok_drawn h
        · trivial
        · rename_i h
          exact leG_mono (endPrinting_le _ _ _ _) (halt_drawn h)
        · trivial
      · trivial
theorem doReturn_le (p : Program) (main : Bool) (fr : Frame) (cs : List Frame) (d : Option Dying) (v : Value) (w : World) : leG w.drawn (doReturn p main fr cs d v w) := by
  unfold doReturn
  dsimp only
  repeat' split
  all_goals first | exact Nat.le_refl _ | trivial
theorem callDeferred_le (p : Program) (fr : Frame) (cs : List Frame) (d : Option Dying) (df : Deferred) (w : World) : leG w.drawn (callDeferred p fr cs d df w) := by
  unfold callDeferred
  refine leG_ite trivial ?_
  simp only [Sem.runT_eq]
  refine leG_after ?_
  split
  all_goals first
    | trivial
    | (rename_i h; exact ok_drawn h)
    | (rename_i h; exact halt_drawn h)
    | (rename_i h; exact leG_mono (endFatal_le _ _ _ _ _ _) (halt_drawn h))
    | (rename_i h; exact leG_mono (endThrow_le _ _ _) (halt_drawn h))
    | (rename_i h; split <;> exact ok_drawn h)
    | (exact ok_drawn ‹_›)
    | (exact halt_drawn ‹_›)
theorem unwind_le (p : Program) (main : Bool) (fr : Frame) (cs : List Frame) (d : Option Dying) (w : World) : leG w.drawn (unwind p main fr cs d w) := by
  unfold unwind
  split
  · simp only [Sem.runT_eq]
    refine leG_after ?_
    split
    · rename_i h
      exact ok_drawn h
    · trivial
  · exact callDeferred_le _ _ _ _ _ _
  · split
    · trivial
    · split
      · trivial
      · split
        · exact Nat.le_refl _
        · split
          · split
            · exact Nat.le_refl _
            · split
              · rename_i h
                exact ok_drawn h
              · trivial
              · trivial
          · split
            · exact endPrinting_le _ _ _ _
            · trivial
    · split
      · exact doReturn_le _ _ _ _ _ _ _
      · simp only [Sem.runT_eq]
        refine leG_after ?_
        split
        · rename_i h
          exact leG_mono (doReturn_le _ _ _ _ _ _ _) (ok_drawn h)
        · trivial
        · trivial
theorem early_le (p : Program) (fr : Frame) (cs : List Frame) (d : Option Dying) (g : Nat) (w : World) : leG w.drawn (early p fr cs d g w) := by
  unfold early
  dsimp only
  repeat' split
  all_goals first
    | trivial
    | exact Nat.le_refl _
    | (rename_i h _ _ _ _; have h2 := ok_drawn h; exact h2)
    | (rename_i h _ _; have h2 := ok_drawn h; exact h2)
    | (rename_i h _; have h2 := ok_drawn h; exact h2)
    | (rename_i h; have h2 := ok_drawn h; exact h2)
theorem apply_le (p : Program) (listen : Bool) (fr : Frame) (cs : List Frame) (d : Option Dying) (s : Sem Next) (w : World) : leG w.drawn (stepG.apply p listen fr cs d s w) := by
  have hr := run_drawn p s w
  have hf : ((if listen = true then (Sem.run p s w, Sem.events p s w #[]) else (Sem.run p s w, #[])) : Result Next × Array Event).fst = Sem.run p s w := by split <;> rfl
  unfold stepG.apply
  simp only [Sem.runT_eq]
  refine leG_after ?_
  rw [hf]
  generalize Sem.run p s w = r at hr
  clear hf
  split
  all_goals first
    | trivial
    | exact hr
    | exact leG_mono (endFatal_le _ _ _ _ _ _) hr
    | exact leG_mono (endThrow_le _ _ _) hr
    | exact leG_mono (early_le _ _ _ _ _ _) hr
    | exact leG_ite (leG_mono (endThrow_le _ _ _) hr) hr
    | (split <;> first | exact hr | exact leG_mono (endThrow_le _ _ _) hr | exact leG_ite (leG_mono (endThrow_le _ _ _) hr) hr)
theorem oper_le (p : Program) (listen : Bool) (fr : Frame) (cs : List Frame) (d : Option Dying) (w : World) : leG w.drawn (stepG.oper p listen fr cs d w) := by
  unfold stepG.oper
  split
  · trivial
  · split
    · exact apply_le _ _ _ _ _ _ _
    · exact apply_le _ _ _ _ _ _ _
theorem leave_le (p : Program) (main : Bool) (fr : Frame) (cs : List Frame) (d : Option Dying) (jump : Option Code) (b : Bool) (w : World) {g : GStep} (hg : leG w.drawn g) (es : Nat → Array Event) :
    leG w.drawn (match fr.roundOf with
      | none => if b = true then g else .ended (.stuck "exit, goto: no such block or label" (fr.pos p)) w
      | some l => GStep.after (es l) (match ((Instr.endRound l jump).runT p w #[]).fst with
        | .ok v w => doReturn p main fr cs d v w
        | .halt _ w => .ended (.stuck "range over a function: no such loop" (fr.pos p)) w)) := by
  split
  · exact leG_ite hg trivial
  · refine leG_after ?_
    simp only [Sem.runT_eq]
    split
    · rename_i h
      exact leG_mono (doReturn_le _ _ _ _ _ _ _) (ok_drawn h)
    · trivial
theorem leG_elim {α : Type} {n : Nat} {o : Option α} {a : GStep} {f : α → GStep} (ha : leG n a) (hf : ∀ x, leG n (f x)) : leG n (o.elim a f) := by
  cases o with
  | none => exact ha
  | some x => exact hf x
theorem exec_le (p : Program) (main listen : Bool) (fr : Frame) (cs : List Frame) (d : Option Dying) (w : World) : leG w.drawn (stepG.exec p main listen fr cs d w) := by
  unfold stepG.exec
  dsimp only
  split
  all_goals first
    | trivial
    | exact Nat.le_refl _
    | exact apply_le _ _ _ _ _ _ _
    | exact leave_le p main fr cs d _ _ w (Nat.le_refl _) (fun _ => _)
    | skip
  all_goals first
    | exact leG_elim (leave_le p main fr cs d _ _ w (Nat.le_refl _) (fun _ => _)) (fun _ => Nat.le_refl _)
    | exact leG_elim trivial (fun _ => apply_le _ _ _ _ _ _ _)
    | exact leG_ite (oper_le _ _ _ _ _ _) (Nat.le_refl _)
    | (refine leG_ite (Nat.le_refl _) ?_
       split
       · exact ok_drawn ‹_›
       · trivial)
    | (refine leG_after ?_
       simp only [Sem.runT_eq]
       split
       all_goals first
         | trivial
         | (rename_i h; exact leG_mono (apply_le _ _ _ _ _ _ _) (ok_drawn h))
         | (rename_i h; exact ok_drawn h)
         | (rename_i h; exact halt_drawn h))
    | (split
       · exact Nat.le_refl _
       · trivial)
theorem stepG_le (p : Program) (main : Bool) (g : Goroutine) (w : World) (listen : Bool) : leG w.drawn (stepG p main g w listen) := by
  unfold stepG
  dsimp only
  split
  · exact die_le _ _ _ _
  · exact exec_le _ _ _ _ _ _ _
  · exact unwind_le _ _ _ _ _ _

/-- a step of the machine -/
def leS (n : Nat) : Stepped → Prop
  | .next m => n ≤ m.world.drawn
  | _ => True
theorem leS_mono {n m : Nat} {s : Stepped} (h : leS n s) (hm : m ≤ n) : leS m s := by
  cases s <;> first | exact Nat.le_trans hm h | trivial
theorem leS_ite {n : Nat} {c : Prop} [Decidable c] {a b : Stepped} (ha : leS n a) (hb : leS n b) : leS n (if c then a else b) := by
  split
  · exact ha
  · exact hb
theorem look_le (p : Program) (gs : Array Goroutine) (rest : Go.Rest) (w : World) : leS w.drawn (look p gs rest w) := by
  unfold look
  dsimp only
  split
  · refine leS_ite trivial ?_
    split
    · trivial
    · split
      · rename_i h
        have h2 := ok_drawn h
        exact h2
      · trivial
      · trivial
  · trivial
theorem leS_fst_ite {n : Nat} {c : Prop} [Decidable c] {a b : Stepped × Array MemOp} (ha : leS n a.1) (hb : leS n b.1) : leS n (if c then a else b).1 := by
  split
  · exact ha
  · exact hb
theorem communicate_le (p : Program) (rest : Go.Rest) (gs : Array Goroutine) (i : Nat) (g : Goroutine) (cases : Array CommCase) (b : Bool) (sh : CommShape) (w : World) : leS w.drawn (communicate p rest gs i g cases b sh w).1 := by
  unfold communicate
  dsimp only
  refine leS_fst_ite trivial ?_
  refine leS_fst_ite (leS_fst_ite ?_ (Nat.le_refl _)) ?_
  · split
    · rename_i w1 h
      unfold waitingAt at h
      split at h
      · split at h
        · cases h
          exact Nat.le_refl _
        · cases h
      · cases h
        exact Nat.le_refl _
    · trivial
  · split
    · trivial
    · rename_i h
      have h0 := ok_drawn h
      split
      · split
        · rename_i h1
          exact Nat.le_trans h0 (halt_drawn h1)
        · trivial
      · exact h0
      · exact h0
      · split
        · exact h0
        · split
          · rename_i h1
            have h2 := ok_drawn h1
            exact Nat.le_trans h0 h2
          · trivial
      · exact h0
      · exact h0
      · trivial
theorem drain_le (w : World) (c : Nat) : (drain w c).2.drawn = w.drawn := by
  unfold drain
  split <;> rfl
theorem retime_le (m : Machine) (k : Nat) (t : Timer) (a b : Nat) : (retime m k t a b).2.world.drawn = m.world.drawn := by
  unfold retime
  dsimp only
  split
  · exact drain_le _ _
  · rfl
theorem timerOp_le {m m' : Machine} {op : TimerOp} {v : Value} (h : timerOp m op = .ok (v, m')) : m.world.drawn ≤ m'.world.drawn := by
  have nm : ∀ (N : Nat) (m : Machine) (var : Addr) (f : Nat → Timer → Value × Machine) (v : Value) (m' : Machine), (∀ k t, (f k t).2.world.drawn = N) → timerOp.named m var f = .ok (v, m') → m'.world.drawn = N := by
    intro N m var f v m' hf h
    unfold timerOp.named at h
    split at h
    · rename_i k hk
      have := hf k (m.rest.timers.getD k default)
      cases hq : f k (m.rest.timers.getD k default) with
      | mk a b =>
        rw [hq] at h this
        cases h
        exact this
    · cases h
  unfold timerOp at h
  split at h
  · split at h
    · cases h
      exact Nat.le_refl _
    · split at h
      · split at h
        · cases h
        · cases h
          exact Nat.le_refl _
      · cases h
  · exact Nat.le_of_eq (nm m.world.drawn _ _ _ _ _ (fun k t => retime_le _ _ _ _ _) h).symm
  · split at h
    · rename_i m1 hm
      have e1 := nm m1.world.drawn _ _ _ _ _ (fun k t => retime_le _ _ _ _ _) h
      have e2 : m1.world.drawn = m.world.drawn := by
        unfold timerOp.opened at hm
        split at hm
        · split at hm
          · cases hm; rfl
          · cases hm
        · cases hm; rfl
      omega
    · cases h
  · cases h
    exact Nat.le_refl _
theorem serve_le (p : Program) (m : Machine) (k : Nat) : leS m.world.drawn (serve p m k) := by
  unfold serve
  split
  · trivial
  · exact Nat.le_refl _
  · dsimp only
    split
    · trivial
    · exact Nat.le_refl _
theorem runT_le (p : Program) (m : Machine) (i : Nat) (listen : Bool) : leS m.world.drawn (runT p m i listen).1 := by
  unfold runT
  dsimp only
  generalize hg : m.gs.swapAt! i { (default : Goroutine) with status := .finished } = gg
  obtain ⟨g, gs⟩ := gg
  dsimp only
  have h := stepG_le p (i == 0) g m.world listen
  generalize stepG p (i == 0) g m.world listen = s at h
  cases s with
  | ended o w es => trivial
  | comm g cases b sh w es => exact leS_mono (communicate_le _ _ _ _ _ _ _ _ _) h
  | go g w es => exact h
  | spawn g c w es => exact h
  | count g w es => exact leS_ite trivial h
  | alone g on w es => exact h
  | collect g w es => exact leS_mono (look_le _ _ _ _) h
  | watch g w es => exact h
  | newcoro g c d w es => exact h
  | coroswitch g c e w es =>
    dsimp only
    split
    · exact h
    · exact h
    · trivial
  | timer g op w es =>
    dsimp only
    split
    · rename_i h1
      exact Nat.le_trans h (timerOp_le h1)
    · exact h
    · trivial
    · trivial
def leM (n : Nat) : Move → Prop
  | .goroutine m _ => n ≤ m.world.drawn
  | .machine s _ => leS n s
theorem leM_mono {n m : Nat} {s : Move} (h : leM n s) (hm : m ≤ n) : leM m s := by
  cases s with
  | goroutine => exact Nat.le_trans hm h
  | machine => exact leS_mono h hm
theorem leM_ite {n : Nat} {c : Prop} [Decidable c] {a b : Move} (ha : leM n a) (hb : leM n b) : leM n (if c then a else b) := by
  split
  · exact ha
  · exact hb
theorem askOn_le (p : Program) (m : Machine) : leM m.world.drawn (askOn p m) := by
  unfold askOn
  dsimp only
  split
  · trivial
  · rename_i k w1 h
    have h0 := ok_drawn h
    refine leM_ite (leS_mono (serve_le _ _ _) h0) ?_
    have pick : ∀ (m1 : Machine) (rs : List Nat), m.world.drawn ≤ m1.world.drawn → leM m.world.drawn (match (choose (.sched rs.length)).run p m1.world with
      | .halt _ w => .machine (.ended (.stuck "sched" "") w)
      | .ok k world =>
        if rs.length ≤ 1 then .goroutine { m1 with world } (rs.getD k 0) else
        match (choose (.extern "sched.slice" 65536)).run p world with
        | .halt _ w => .machine (.ended (.stuck "sched.slice" "") w)
        | .ok n world => .goroutine { m1 with world, rest := { m1.rest with slice := if n = 0 then none else some (rs.getD k 0, n) } } (rs.getD k 0)) := by
      intro m1 rs hm
      split
      · trivial
      · rename_i h1
        have h2 := Nat.le_trans hm (ok_drawn h1)
        refine leM_ite h2 ?_
        split
        · trivial
        · rename_i h3
          have h4 := Nat.le_trans h2 (ok_drawn h3)
          exact h4
    split
    · split
      · exact h0
      · refine leM_ite h0 ?_
        split <;> trivial
    · split
      · exact pick { m with world := w1 } _ h0
      · split
        · trivial
        · rename_i h1
          have h2 := Nat.le_trans h0 (ok_drawn h1)
          exact pick { m with world := _ } _ h2
        · rename_i h1
          have h2 := Nat.le_trans h0 (ok_drawn h1)
          exact h2
        · rename_i h1
          have h2 := Nat.le_trans h0 (ok_drawn h1)
          exact pick (Machine.advanceTo { m with world := _ } _) _ h2
theorem ask_le (p : Program) (m : Machine) : leM m.world.drawn (ask p m) := by
  unfold ask
  split
  · split
    · trivial
    · rename_i w1 h
      have h0 := ok_drawn h
      have h2 := look_le p m.gs m.rest w1
      split
      · rename_i h1
        rw [h1] at h2
        exact leM_mono (askOn_le _ _) (Nat.le_trans h0 h2)
      · exact leS_mono h2 h0
    · rename_i h
      have h0 := ok_drawn h
      exact leM_mono (askOn_le _ _) h0
  · exact askOn_le _ _
theorem move_le (p : Program) (m : Machine) : leM m.world.drawn (move p m) := by
  unfold move
  split
  · exact leM_ite (Nat.le_refl _) trivial
  · split
    · exact leM_ite (Nat.le_refl _) (ask_le _ _)
    · exact ask_le _ _
theorem step_drawn (p : Program) (m : Machine) : leS m.world.drawn (step p m) := by
  unfold step stepT
  have h := move_le p m
  generalize move p m = mv at h
  cases mv with
  | goroutine m1 i => exact leS_mono (runT_le _ _ _ _) h
  | machine s ops => exact h
theorem runN_drawn (p : Program) : ∀ (n : Nat) (m m' : Machine), runN p n m = .next m' → m.world.drawn ≤ m'.world.drawn
  | 0, m, m', h => by
    simp [runN] at h
    rw [h]
    exact Nat.le_refl _
  | n + 1, m, m', h => by
    have h2 := step_drawn p m
    unfold runN at h
    split at h
    · rename_i m1 h1
      rw [h1] at h2
      exact Nat.le_trans h2 (runN_drawn p n _ _ h)
    · rename_i h1
      exact absurd h (fun h => h1 _ h)
theorem steps_drawn {p : Program} {m m' : Machine} (h : Steps p m m') : m.world.drawn ≤ m'.world.drawn := by
  obtain ⟨n, hn⟩ := h
  exact runN_drawn p n m m' hn
/-- a call never gives back what was drawn -/
theorem calls_drawn {p : Program} {f : FuncId} {args : Array Value} {w : World} {R : Ending → World → Prop} (h : Calls p f args w R) (hR : ∀ e w', R e w' → e ≠ .outgrown) :
    Calls p f args w fun e w' => R e w' ∧ w.drawn ≤ w'.drawn := fun cs => by
  obtain ⟨e, w', fr, r, s, x⟩ := h cs
  refine ⟨e, w', fr, ⟨r, ?_⟩, s, x⟩
  cases e with
  | outgrown => exact absurd rfl (hR _ _ r)
  | returned v => exact steps_drawn (m := lone (Frame.enter p f args .normal) cs w) (m' := lone fr cs w') s
  | panicked c => exact steps_drawn (m := lone (Frame.enter p f args .normal) cs w) (m' := lone fr cs w') s
end Go.Proofs.Ytofmfainhflmmaa

/-
  WORDS FOR SLICES: of one cell an element; of values; of rows (slices of values).
-/
namespace Go.Proofs.Ytofmfainhflmmaa
open Go.RowKit
open Go.Sort (grow)

theorem addI (g o j : Nat) : Addr.add ⟨g, o, none⟩ j = ⟨g, o + j, none⟩ := by
  unfold Addr.add
  split
  · subst_vars; rfl
  · rfl
theorem below_drewN {n0 : Nat} (w : World) (q : Nat) : Below n0 w (w.drewN q) := ⟨rfl, rfl, rfl, Nat.le_refl _, fun _ _ => rfl⟩
theorem wpList_append_any {P : Program} {w : World} {ops : Array Oper} {rest : List Oper} {o : Oper} {a : Act} {Q : Exit → Act → World → Prop} (hgd : o.guard = none) (s x : Operand) (t : TypeId)
    (ho : o.op = .call { callee := .builtin .append, args := #[s, x], argTypes := #[t, t] })
    (base : Nat) (e : TypeId) (i : TypeInfo) (z : Value) (size bytes : Nat) (ht : P.underlying t = some (.slice e)) (hi : P.info? e = some i) (hz : i.zero = some z)
    (hsize : i.size = size) (hby : i.bytes = bytes) (hzs : z.cells.size = size) (hsz : 0 < size)
    (v : Value) (n : Nat) (xs : List Value) (hs : a.eval s = v) (hown : w.ownsRow base e size v n xs)
    (A : Option Addr) (m c : Nat) (news : List Value) (hx : a.eval x = .slice A m c) (hl : news.length = m * size) (hA : A = none → m = 0 ∧ c = 0) (hnews : ∀ ad, A = some ad → ∀ j u, news[j]? = some u → w.cell? (ad.add j) = some u) (h1 : ∀ u ∈ news, u.oneCell' = true)
    (h63 : n + m ≤ maxLen) (hbytes : (n + m) * bytes ≤ 140737488355328) (hbase : base ≤ w.heap.size)
    (h : ∀ v' w', w'.ownsRow base e size v' (n + m) (xs ++ news) → w.grownBy w' v.ownBlock → wpList P ops Q rest (a.put o.dst v') w') : wpList P ops Q (o :: rest) a w := by
  cases A with
  | none =>
    obtain ⟨rfl, rfl⟩ := hA rfl
    rw [Nat.zero_mul] at hl
    have hn := List.length_eq_zero_iff.1 hl
    subst hn
    refine wpList_append_own_none hgd s x t ho base e i size ht hi v n xs hs hown hx (h v w (by rw [List.append_nil]; exact hown) ⟨rfl, rfl, rfl, Nat.le_refl _, fun _ _ _ => rfl⟩)
  | some ad =>
    exact wpList_append_own w hgd s x t ho base e i z size bytes ht hi hz hsize hby hzs hsz v n xs hs hown ad m c news hx hl (hnews ad rfl) h1 h63 hbytes hbase fun v' w' h2 h3 _ => h v' w' h2 h3
theorem below_owns {W w1 : World} {B : Nat} {t : TypeId} {k n : Nat} {v : Value} {xs : List Value} (h : W.ownsRow B t k v n xs) (hg : W.grownBy w1 v.ownBlock) (hB : B ≤ W.heap.size) : Below B W w1 :=
  (Below.refl B W).grown hg hB (fun k hk => (World.ownsRow.lt h k hk).1)
theorem owns_next {W W' : World} {B : Nat} {t : TypeId} {k n : Nat} {v : Value} {xs : List Value} (h : W.ownsRow B t k v n xs) (hb : Below W.heap.size W W') : W'.ownsRow B t k v n xs := by
  refine ⟨h.1, ?_⟩
  rcases h.2 with h | ⟨g, cap, cur, h1, h2, h3, h4⟩
  · exact .inl h
  · exact .inr ⟨g, cap, cur, h1, h2, (hb.block g (Array.getElem?_eq_some_iff.1 h3).1).trans h3, h4⟩
theorem owns_low {W : World} {B B' : Nat} {t : TypeId} {k n : Nat} {v : Value} {xs : List Value} (h : W.ownsRow B t k v n xs) (hB : B' ≤ B) : W.ownsRow B' t k v n xs := by
  refine ⟨h.1, ?_⟩
  rcases h.2 with h | ⟨g, cap, cur, h1, h2, h3⟩
  · exact .inl h
  · exact .inr ⟨g, cap, cur, h1, by omega, h3⟩
/-- rows of different types lie apart: a call that grows the one keeps the other -/
theorem owns_other {W W' : World} {B B' : Nat} {t t' : TypeId} {k k' n n' : Nat} {v v' : Value} {xs xs' : List Value} (h : W.ownsRow B t k v n xs) (h' : W.ownsRow B' t' k' v' n' xs') (ht : t ≠ t') (hg : W.grownBy W' v'.ownBlock) : W'.ownsRow B t k v n xs := by
  refine ⟨h.1, ?_⟩
  rcases h.2 with h0 | ⟨g, cap, cur, h1, h2, h3, h4⟩
  · exact .inl h0
  · refine .inr ⟨g, cap, cur, h1, h2, (hg.block g (Array.getElem?_eq_some_iff.1 h3).1 ?_).trans h3, h4⟩
    rcases h'.2 with ⟨rfl, _⟩ | ⟨g', cap', cur', rfl, _, hgb, _⟩
    · simp [Value.ownBlock]
    · intro e
      have e2 : g = g' := by simpa [Value.ownBlock] using e
      subst e2
      rw [h3] at hgb
      injection hgb with hgb
      injection hgb with _ hgb _
      exact ht hgb

/-! one cell an element -/
section
variable {α : Type}
/-- a slice that reads as these, in blocks below B -/
def Sl1 (e : α → Value) (W : World) (B : Nat) (A : Option Addr) (l : List α) : Prop :=
  l ≠ [] → ∃ b o, A = some ⟨b, o, none⟩ ∧ b < B ∧ ∀ (j : Nat) (x : α), l[j]? = some x → W.cell? ⟨b, o + j, none⟩ = some (e x)
theorem Sl1.next {e : α → Value} {W W' : World} {B : Nat} {A : Option Addr} {l : List α} (h : Sl1 e W B A l) {B' : Nat} (hb : Below B' W W') (hB : B ≤ B') : Sl1 e W' B A l := fun hl => by
  obtain ⟨b, o, e1, hlt, hc⟩ := h hl
  exact ⟨b, o, e1, hlt, fun j p hp => (hb.cell (p := ⟨b, o + j, none⟩) (by show b < B'; omega)).trans (hc j p hp)⟩
theorem Sl1.more {e : α → Value} {W : World} {B B' : Nat} {A : Option Addr} {l : List α} (h : Sl1 e W B A l) (hB : B ≤ B') : Sl1 e W B' A l := fun hl => by
  obtain ⟨b, o, e1, hlt, hc⟩ := h hl
  exact ⟨b, o, e1, by omega, hc⟩
theorem Sl1.at_ {e : α → Value} {W : World} {B : Nat} {A : Option Addr} {l : List α} (h : Sl1 e W B A l) {j : Nat} (hj : j < l.length) : ∃ b o, A = some ⟨b, o, none⟩ ∧ b < B ∧ W.cell? ⟨b, o + j, none⟩ = some (e l[j]) := by
  obtain ⟨b, o, e1, hlt, hc⟩ := h (by intro e; rw [e] at hj; simp at hj)
  exact ⟨b, o, e1, hlt, hc j _ (List.getElem?_eq_getElem hj)⟩
/-- the same, where the slice's place is known -/
theorem Sl1.cell {e : α → Value} {W : World} {B b o : Nat} {l : List α} (h : Sl1 e W B (some ⟨b, o, none⟩) l) {j : Nat} {x : α} (hx : l[j]? = some x) : W.cell? ⟨b, o + j, none⟩ = some (e x) := by
  obtain ⟨b', o', e1, _, hc⟩ := h (by intro e; rw [e] at hx; simp at hx)
  cases e1
  exact hc j x hx
theorem Sl1.take {e : α → Value} {W : World} {B : Nat} {A : Option Addr} {l : List α} (h : Sl1 e W B A l) (k : Nat) : Sl1 e W B A (l.take k) := fun hl => by
  obtain ⟨b, o, e1, hlt, hc⟩ := h (fun e => hl (by rw [e]; simp))
  refine ⟨b, o, e1, hlt, fun j p hp => hc j p ?_⟩
  rw [List.getElem?_take] at hp
  split at hp
  · exact hp
  · cases hp
def cut1 (A : Option Addr) (c k : Nat) : Option Addr := if c = k then A else A.map (·.add (k * 1))
theorem cut1_zero (A : Option Addr) (c : Nat) : cut1 A c 0 = A := by
  unfold cut1
  split
  · rfl
  · cases A with
    | none => rfl
    | some a =>
      show some (a.add (0 * 1)) = some a
      rw [Nat.zero_mul]
      congr 1
theorem cut1_none {A : Option Addr} {c k : Nat} (h : cut1 A c k = none) : A = none := by
  unfold cut1 at h
  split at h
  · exact h
  · simpa using h
theorem Sl1.drop {e : α → Value} {W : World} {B : Nat} {A : Option Addr} {l : List α} (h : Sl1 e W B A l) {c : Nat} (k : Nat) (hlc : l.length ≤ c) : Sl1 e W B (cut1 A c k) (l.drop k) := fun hl => by
  have hk : k < l.length := by
    rcases Nat.lt_or_ge k l.length with h1 | h1
    · exact h1
    · exact absurd (List.drop_of_length_le h1) hl
  obtain ⟨b, o, rfl, hlt, hc⟩ := h (fun e => by rw [e] at hk; exact absurd hk (Nat.not_lt_zero _))
  unfold cut1
  rw [if_neg (by omega)]
  refine ⟨b, o + k, by show some (Addr.add ⟨b, o, none⟩ (k * 1)) = _; rw [Nat.mul_one, addI], hlt, fun j p hp => ?_⟩
  rw [List.getElem?_drop] at hp
  have := hc (k + j) p hp
  rwa [show o + (k + j) = o + k + j from by omega] at this
theorem Sl1.news {e : α → Value} {W : World} {B : Nat} {A : Option Addr} {l : List α} (h : Sl1 e W B A l) (ad : Addr) (hA : A = some ad) (j : Nat) (u : Value) (hu : (l.map e)[j]? = some u) : W.cell? (ad.add j) = some u := by
  rw [List.getElem?_map] at hu
  obtain ⟨x, hx, rfl⟩ := Option.map_eq_some_iff.1 hu
  obtain ⟨b, o, e1, _, hc⟩ := h (fun e => by rw [e] at hx; simp at hx)
  rw [hA] at e1
  cases e1
  rw [addI]
  exact hc j x hx
theorem sl1_nil {e : α → Value} {W : World} {B : Nat} {A : Option Addr} : Sl1 e W B A ([] : List α) := fun h => absurd rfl h
/-- a slice in blocks from B on, which the call has to itself -/
def Own1 (t : TypeId) (e : α → Value) (W : World) (B : Nat) (v : Value) (l : List α) : Prop := W.ownsRow B t 1 v l.length (l.map e)
theorem own1_nil (t : TypeId) (e : α → Value) (W : World) (B : Nat) : Own1 t e W B (.slice none 0 0) [] := World.ownsRow_nil _ _ _ _
theorem Own1.next {t : TypeId} {e : α → Value} {W W' : World} {B : Nat} {v : Value} {l : List α} (h : Own1 t e W B v l) (hb : Below W.heap.size W W') : Own1 t e W' B v l := owns_next h hb
theorem Own1.low {t : TypeId} {e : α → Value} {W : World} {B B' : Nat} {v : Value} {l : List α} (h : Own1 t e W B v l) (hB : B' ≤ B) : Own1 t e W B' v l := owns_low h hB
theorem Own1.form {t : TypeId} {e : α → Value} {W : World} {B : Nat} {v : Value} {l : List α} (h : Own1 t e W B v l) : ∃ A c, v = .slice A l.length c ∧ Sl1 e W W.heap.size A l ∧ l.length ≤ c ∧ c ≤ maxLen ∧ (A = none → l.length = 0 ∧ c = 0) ∧ (∀ a, A = some a → ∃ g, a = ⟨g, 0, none⟩ ∧ B ≤ g ∧ g < W.heap.size) := by
  rcases h.2 with ⟨rfl, h0⟩ | ⟨g, cap, cur, rfl, hB, hgb, h1, h2, _⟩
  · exact ⟨none, 0, by rw [h0], fun hl => absurd (List.length_eq_zero_iff.1 h0) hl, by omega, Nat.zero_le _, fun _ => ⟨h0, rfl⟩, fun a e => by cases e⟩
  · have hlt := (Array.getElem?_eq_some_iff.1 hgb).1
    refine ⟨_, _, rfl, fun _ => ⟨g, 0, rfl, hlt, fun j p hp => ?_⟩, h1, h2, (fun e => by cases e), fun a e => ⟨g, (by cases e; rfl), hB, hlt⟩⟩
    have hr : W.ownsRow B t 1 (.slice (some ⟨g, 0, none⟩) l.length cap) l.length (l.map e) := h
    have hj : j < l.length := (List.getElem?_eq_some_iff.1 hp).1
    rw [Nat.zero_add, hr.cellAt j (by omega), List.getElem?_map, hp]; rfl
theorem own1_of {t : TypeId} {e : α → Value} {W : World} {B m : Nat} {v : Value} {a b : List α} (h : W.ownsRow B t 1 v m (a.map e ++ b.map e)) : Own1 t e W B v (a ++ b) := by
  have h1 := h.1
  rw [← List.map_append, List.length_map] at h1
  obtain rfl : m = (a ++ b).length := by omega
  show World.ownsRow _ _ _ _ _ _ _
  rw [List.map_append]
  exact h
theorem own1_zero (t : TypeId) (e : α → Value) (W : World) (B : Nat) (hB : B ≤ W.heap.size) : Own1 t e (W.alloc (.cells #[] t)) B (.slice (some ⟨W.heap.size, 0, none⟩) 0 0) [] :=
  ⟨rfl, .inr ⟨W.heap.size, 0, #[], rfl, hB, heap_alloc_new W _, Nat.le_refl _, Nat.zero_le _, rfl, rfl⟩⟩
theorem lit1 (e : α → Value) (t : TypeId) (w3 : World) (x : α) (ad : Addr) (h : some (⟨w3.heap.size, 0, none⟩ : Addr) = some ad) (j : Nat) (u : Value) (hu : ([x].map e)[j]? = some u) :
    (w3.alloc (.cells #[e x] t)).cell? (ad.add j) = some u := by
  cases h
  rw [addI, Nat.zero_add, World.cell?_alloc_new]
  simpa using hu
end

/-! values -/
/-- one value: kind, number, text -/
abbrev Vl := Int × (Int × ByteArray)
def cellsV (v : Vl) : List Value := [.int .i64 v.1, .int .i64 v.2.1, .string v.2.2]
theorem cellsV_one (v : Vl) : ∀ u ∈ cellsV v, u.oneCell' = true := by
  intro u hu
  simp [cellsV] at hu
  rcases hu with rfl | rfl | rfl <;> rfl
theorem flatV {l : List Vl} {j i : Nat} (hi : i < 3) : (l.flatMap cellsV)[j * 3 + i]? = l[j]?.bind fun x => (cellsV x)[i]? := by
  induction l generalizing j with
  | nil => simp
  | cons x l ih =>
    cases j with
    | zero =>
      rw [List.flatMap_cons, Nat.zero_mul, Nat.zero_add, List.getElem?_append_left (by show i < 3; exact hi)]
      simp
    | succ j =>
      have e : (j + 1) * 3 + i = 3 + (j * 3 + i) := by omega
      have h3 : (cellsV x).length = 3 := rfl
      rw [List.flatMap_cons, e, List.getElem?_append_right (by rw [h3]; omega), h3, Nat.add_sub_cancel_left, ih]
      simp
theorem flatV_len (l : List Vl) : (l.flatMap cellsV).length = l.length * 3 := by
  induction l with
  | nil => simp
  | cons x l ih =>
    have h3 : (cellsV x).length = 3 := rfl
    rw [List.flatMap_cons, List.length_append, ih, h3, List.length_cons]; omega
theorem cellsV_all (l : List Vl) : ∀ u ∈ l.flatMap cellsV, u.oneCell' = true := fun u hu => by
  obtain ⟨s, _, hs⟩ := List.mem_flatMap.1 hu
  exact cellsV_one s u hs
/-- one value's cells -/
structure VlAt (W : World) (b o : Nat) (v : Vl) : Prop where
  c0 : W.cell? ⟨b, o, none⟩ = some (.int .i64 v.1)
  c1 : W.cell? ⟨b, o + 1, none⟩ = some (.int .i64 v.2.1)
  c2 : W.cell? ⟨b, o + 2, none⟩ = some (.string v.2.2)
/-- a slice that reads as these values, in blocks below B -/
def SlV (W : World) (B : Nat) (A : Option Addr) (l : List Vl) : Prop :=
  l ≠ [] → ∃ b o, A = some ⟨b, o, none⟩ ∧ b < B ∧ ∀ (j : Nat) (v : Vl), l[j]? = some v → VlAt W b (o + j * 3) v
theorem VlAt.next {W W' : World} {B b o : Nat} {v : Vl} (h : VlAt W b o v) (hb : Below B W W') (hB : b < B) : VlAt W' b o v :=
  ⟨(hb.cell (p := ⟨b, o, none⟩) hB).trans h.c0, (hb.cell (p := ⟨b, o + 1, none⟩) hB).trans h.c1, (hb.cell (p := ⟨b, o + 2, none⟩) hB).trans h.c2⟩
theorem VlAt.drewN {W : World} {b o : Nat} {v : Vl} (h : VlAt W b o v) (n : Nat) : VlAt (W.drewN n) b o v := ⟨h.c0, h.c1, h.c2⟩
theorem SlV.next {W W' : World} {B : Nat} {A : Option Addr} {l : List Vl} (h : SlV W B A l) {B' : Nat} (hb : Below B' W W') (hB : B ≤ B') : SlV W' B A l := fun hl => by
  obtain ⟨b, o, e, hlt, hc⟩ := h hl
  exact ⟨b, o, e, hlt, fun j p hp => (hc j p hp).next hb (by omega)⟩
theorem SlV.more {W : World} {B B' : Nat} {A : Option Addr} {l : List Vl} (h : SlV W B A l) (hB : B ≤ B') : SlV W B' A l := fun hl => by
  obtain ⟨b, o, e, hlt, hc⟩ := h hl
  exact ⟨b, o, e, by omega, hc⟩
theorem SlV.at_ {W : World} {B : Nat} {A : Option Addr} {l : List Vl} (h : SlV W B A l) {j : Nat} (hj : j < l.length) : ∃ b o, A = some ⟨b, o, none⟩ ∧ b < B ∧ VlAt W b (o + j * 3) l[j] := by
  obtain ⟨b, o, e, hlt, hc⟩ := h (by intro e; rw [e] at hj; simp at hj)
  exact ⟨b, o, e, hlt, hc j _ (List.getElem?_eq_getElem hj)⟩
/-- a slice of values in blocks from B on, which the call has to itself -/
def OwnV (W : World) (B : Nat) (v : Value) (l : List Vl) : Prop := W.ownsRow B 24 3 v l.length (l.flatMap cellsV)
theorem OwnV.next {W W' : World} {B : Nat} {v : Value} {l : List Vl} (h : OwnV W B v l) (hb : Below W.heap.size W W') : OwnV W' B v l := owns_next h hb
theorem OwnV.low {W : World} {B B' : Nat} {v : Value} {l : List Vl} (h : OwnV W B v l) (hB : B' ≤ B) : OwnV W B' v l := owns_low h hB
theorem OwnV.form {W : World} {B : Nat} {v : Value} {l : List Vl} (h : OwnV W B v l) : ∃ A c, v = .slice A l.length c ∧ SlV W W.heap.size A l ∧ l.length ≤ c ∧ c ≤ maxLen ∧ (A = none → l.length = 0 ∧ c = 0) := by
  rcases h.2 with ⟨rfl, h0⟩ | ⟨g, cap, cur, rfl, _, hgb, h1, h2, _⟩
  · exact ⟨none, 0, by rw [h0], fun hl => absurd (List.length_eq_zero_iff.1 h0) hl, by omega, Nat.zero_le _, fun _ => ⟨h0, rfl⟩⟩
  · refine ⟨_, _, rfl, fun _ => ⟨g, 0, rfl, (Array.getElem?_eq_some_iff.1 hgb).1, fun j p hp => ?_⟩, h1, h2, (fun e => by cases e)⟩
    have hr : W.ownsRow B 24 3 (.slice (some ⟨g, 0, none⟩) l.length cap) l.length (l.flatMap cellsV) := h
    have hj : j < l.length := (List.getElem?_eq_some_iff.1 hp).1
    have hc : ∀ i, i < 3 → W.cell? ⟨g, j * 3 + i, none⟩ = (cellsV p)[i]? := fun i hi => by
      rw [hr.cellAt (j * 3 + i) (by omega), flatV hi, hp]; rfl
    rw [Nat.zero_add]
    exact ⟨hc 0 (by omega), hc 1 (by omega), hc 2 (by omega)⟩
theorem SlV.news {W : World} {B : Nat} {A : Option Addr} {l : List Vl} (h : SlV W B A l) (ad : Addr) (hA : A = some ad) (j : Nat) (u : Value) (hu : (l.flatMap cellsV)[j]? = some u) : W.cell? (ad.add j) = some u := by
  have hj := (List.getElem?_eq_some_iff.1 hu).1
  rw [flatV_len] at hj
  obtain ⟨b, o, e, _, hc⟩ := h (fun e => by rw [e] at hj; simp at hj)
  rw [hA] at e
  cases e
  rw [addI]
  obtain ⟨k, i, hi, rfl⟩ : ∃ k i, i < 3 ∧ j = k * 3 + i := ⟨j / 3, j % 3, by omega, by omega⟩
  rw [flatV hi] at hu
  obtain ⟨s, hs, hu⟩ := Option.bind_eq_some_iff.1 hu
  have hp := hc k s hs
  rcases (by omega : i = 0 ∨ i = 1 ∨ i = 2) with rfl | rfl | rfl
  · simp [cellsV] at hu
    subst hu
    exact hp.c0
  · simp [cellsV] at hu
    subst hu
    rw [← Nat.add_assoc]
    exact hp.c1
  · simp [cellsV] at hu
    subst hu
    rw [← Nat.add_assoc]
    exact hp.c2
theorem ownV_of {W : World} {B m : Nat} {v : Value} {a b : List Vl} (h : W.ownsRow B 24 3 v m (a.flatMap cellsV ++ b.flatMap cellsV)) : OwnV W B v (a ++ b) := by
  have h1 := h.1
  rw [← List.flatMap_append, flatV_len] at h1
  obtain rfl : m = (a ++ b).length := by omega
  show World.ownsRow _ _ _ _ _ _ _
  rw [List.flatMap_append]
  exact h
theorem infoV : (Try.prog.info? 24).map (fun i => (i.zero, i.size, i.bytes)) = some (some (.agg #[.int .i64 0, .int .i64 0, .string ⟨#[]⟩]), 3, 32) := by kernel_rfl
theorem infoR : (Try.prog.info? 46).map (fun i => (i.zero, i.size, i.bytes)) = some (some (.slice none 0 0), 1, 24) := by kernel_rfl
theorem infoS : (Try.prog.info? 9).map (fun i => (i.zero, i.size, i.bytes)) = some (some (.string ⟨#[]⟩), 1, 16) := by kernel_rfl
theorem ownV_zero (W : World) (B : Nat) (hB : B ≤ W.heap.size) : OwnV (W.alloc (.cells #[] 24)) B (.slice (some ⟨W.heap.size, 0, none⟩) 0 0) [] :=
  ⟨rfl, .inr ⟨W.heap.size, 0, #[], rfl, hB, heap_alloc_new W _, Nat.le_refl _, Nat.zero_le _, rfl, rfl⟩⟩

/-! rows -/
/-- a row as it stands: where, what -/
structure Rw where
  A : Option Addr
  c : Nat
  l : List Vl
instance : Inhabited Rw := ⟨⟨none, 0, []⟩⟩
def cellR (r : Rw) : Value := .slice r.A r.l.length r.c
def zOk (l : List Vl) : Prop := ∀ v ∈ l, v.2.2.size ≤ maxLen ∧ (-9223372036854775808 ≤ v.2.1 ∧ v.2.1 ≤ 9223372036854775807)
structure RwOk (W : World) (B : Nat) (r : Rw) : Prop where
  s : SlV W B r.A r.l
  n : r.A = none → r.l.length = 0 ∧ r.c = 0
  c : r.l.length ≤ r.c
  m : r.c ≤ maxLen
  z : zOk r.l
theorem RwOk.next {W W' : World} {B : Nat} {r : Rw} (h : RwOk W B r) {B' : Nat} (hb : Below B' W W') (hB : B ≤ B') : RwOk W' B r := ⟨h.s.next hb hB, h.n, h.c, h.m, h.z⟩
theorem RwOk.more {W : World} {B B' : Nat} {r : Rw} (h : RwOk W B r) (hB : B ≤ B') : RwOk W B' r := ⟨h.s.more hB, h.n, h.c, h.m, h.z⟩
/-- a slice that reads as these rows -/
structure SlR (W : World) (B : Nat) (A : Option Addr) (R : List Rw) : Prop where
  s : Sl1 cellR W B A R
  r : ∀ x ∈ R, RwOk W B x
theorem SlR.next {W W' : World} {B : Nat} {A : Option Addr} {R : List Rw} (h : SlR W B A R) {B' : Nat} (hb : Below B' W W') (hB : B ≤ B') : SlR W' B A R := ⟨h.s.next hb hB, fun x hx => (h.r x hx).next hb hB⟩
theorem SlR.more {W : World} {B B' : Nat} {A : Option Addr} {R : List Rw} (h : SlR W B A R) (hB : B ≤ B') : SlR W B' A R := ⟨h.s.more hB, fun x hx => (h.r x hx).more hB⟩
theorem SlR.up {W W' : World} {A : Option Addr} {R : List Rw} (h : SlR W W.heap.size A R) {B' : Nat} (hb : Below B' W W') (hB : W.heap.size ≤ B') : SlR W' W'.heap.size A R := (h.next hb hB).more hb.size
theorem Sl1.up {α : Type} {e : α → Value} {W W' : World} {A : Option Addr} {R : List α} (h : Sl1 e W W.heap.size A R) {B' : Nat} (hb : Below B' W W') (hB : W.heap.size ≤ B') : Sl1 e W' W'.heap.size A R := (h.next hb hB).more hb.size
theorem RwOk.up {W W' : World} {r : Rw} (h : RwOk W W.heap.size r) {B' : Nat} (hb : Below B' W W') (hB : W.heap.size ≤ B') : RwOk W' W'.heap.size r := (h.next hb hB).more hb.size
/-- rows, and what they hold, in blocks from B on, which the call has to itself -/
structure OwnR (W : World) (B : Nat) (v : Value) (R : List Rw) : Prop where
  o : Own1 46 cellR W B v R
  i : ∀ x ∈ R, OwnV W B (cellR x) x.l
  z : ∀ x ∈ R, zOk x.l
theorem OwnV.rwOk {W : World} {B : Nat} {r : Rw} (h : OwnV W B (cellR r) r.l) (hz : zOk r.l) : RwOk W W.heap.size r := by
  obtain ⟨A, c, e, hs, h1, h2, h3⟩ := h.form
  have e1 : r.A = A ∧ r.c = c := by unfold cellR at e; cases e; exact ⟨rfl, rfl⟩
  obtain ⟨rfl, rfl⟩ := e1
  exact ⟨hs, h3, h1, h2, hz⟩
theorem OwnR.form {W : World} {B : Nat} {v : Value} {R : List Rw} (h : OwnR W B v R) : ∃ A c, v = .slice A R.length c ∧ SlR W W.heap.size A R ∧ R.length ≤ c ∧ c ≤ maxLen ∧ (A = none → R.length = 0 ∧ c = 0) ∧ (∀ a, A = some a → ∃ g, a = ⟨g, 0, none⟩ ∧ B ≤ g ∧ g < W.heap.size) := by
  obtain ⟨A, c, e, hs, h1, h2, h3, h4⟩ := h.o.form
  exact ⟨A, c, e, ⟨hs, fun x hx => (h.i x hx).rwOk (h.z x hx)⟩, h1, h2, h3, h4⟩
theorem OwnR.next {W W' : World} {B : Nat} {v : Value} {R : List Rw} (h : OwnR W B v R) (hb : Below W.heap.size W W') : OwnR W' B v R := ⟨h.o.next hb, fun x hx => (h.i x hx).next hb, h.z⟩
theorem OwnR.low {W : World} {B B' : Nat} {v : Value} {R : List Rw} (h : OwnR W B v R) (hB : B' ≤ B) : OwnR W B' v R := ⟨h.o.low hB, fun x hx => (h.i x hx).low hB, h.z⟩
theorem ownR_nil (W : World) (B : Nat) : OwnR W B (.slice none 0 0) [] := ⟨own1_nil _ _ _ _, (fun x hx => by cases hx), (fun x hx => by cases hx)⟩
/-- the values that rows hold -/
def txR (R : List Rw) : List (List Vl) := R.map (·.l)
def strV (s : ByteArray) : Value := .string s
abbrev OwnC (W : World) (B : Nat) (v : Value) (l : List ByteArray) : Prop := Own1 9 strV W B v l
abbrev SlC (W : World) (B : Nat) (A : Option Addr) (l : List ByteArray) : Prop := Sl1 strV W B A l
end Go.Proofs.Ytofmfainhflmmaa

/-
  ARGUMENTS: names, rows that came in; that they read behind the call as before.
-/
namespace Go.Proofs.Ytofmfainhflmmaa
open Go.ChangeShapes Go.WideShapes Go.ChangeAt Go.RowKit Go.Joins Go.Deep

theorem laidOut : laidOutB Try.prog = true := by kernel_rfl
theorem cellsVl : Try.prog.cellsOf 24 = 3 := by kernel_rfl
theorem cellsI : Try.prog.cellsOf 3 = 1 := by kernel_rfl
theorem cellsL64 : Try.prog.cellsOf 2 = 1 := by kernel_rfl
theorem cellsStr : Try.prog.cellsOf 9 = 1 := by kernel_rfl
theorem cellsRow : Try.prog.cellsOf 46 = 1 := by kernel_rfl
theorem cell_lt {W : World} {a : Addr} {v : Value} (h : W.cell? a = some v) : a.block < W.heap.size := by
  unfold World.cell? at h
  cases hb : W.heap[a.block]? with
  | none => rw [hb] at h; cases h
  | some o => exact (Array.getElem?_eq_some_iff.1 hb).1
theorem add_block (a : Addr) (j : Nat) : (a.add j).block = a.block := by unfold Addr.add; split <;> rfl
section
variable {H : Type} {enc : TypeId × Value → H}
set_option maxRecDepth 100000 in
/-- three cells that read as a value -/
theorem vl_cells {W : World} {n : Nat} {cs : List Value} {D : DataW H} {Pl : List MemPlace} (h : DataW.trod enc Try.prog W 0 (fun _ => true) true n 24 cs = some (D, Pl)) :
    ∃ v : Vl, cs = [.int .i64 v.1, .int .i64 v.2.1, .string v.2.2] ∧ v.2.2.size ≤ maxLen ∧ (-9223372036854775808 ≤ v.2.1 ∧ v.2.1 ≤ 9223372036854775807) := by
  obtain ⟨ys, n2, _, hy, hlen, hyl, hg⟩ := DataW.trod_struct Try.underlying24 h
  rw [cellsVl] at hlen
  match cs, hlen with
  | [c2, c3, c4], _ =>
    match ys, hyl with
    | [y0, y1, y2], _ =>
      have g0 : DataW.trod enc Try.prog W 0 (fun _ => true) true n2 3 ((([c2, c3, c4] : List Value).drop 0).take (Try.prog.cellsOf 3)) = some y0 := hg 0 _ rfl
      rw [cellsI] at g0
      have g1 : DataW.trod enc Try.prog W 0 (fun _ => true) true n2 2 ((([c2, c3, c4] : List Value).drop 1).take (Try.prog.cellsOf 2)) = some y1 := hg 1 _ rfl
      rw [cellsL64] at g1
      have g2 : DataW.trod enc Try.prog W 0 (fun _ => true) true n2 9 ((([c2, c3, c4] : List Value).drop 2).take (Try.prog.cellsOf 9)) = some y2 := hg 2 _ rfl
      rw [cellsStr] at g2
      obtain ⟨k, f0, _, v0⟩ := DataW.trod_int Try.underlying3 g0
      obtain ⟨m, f1, _, v1⟩ := DataW.trod_int Try.underlying2 g1
      have hm : -9223372036854775808 ≤ m ∧ m ≤ 9223372036854775807 := by
        unfold Lit.wf at v1
        rw [Bool.and_eq_true, decide_eq_true_eq, decide_eq_true_eq] at v1
        exact v1
      obtain ⟨s, f2, _, v2⟩ := DataW.trod_string Try.underlying9 g2
      simp at f0 f1 f2
      subst f0 f1 f2
      exact ⟨(k, m, s), rfl, v2, hm⟩
set_option maxRecDepth 100000 in
/-- a cell that reads as a row -/
theorem row_cell {W : World} {n : Nat} {cs : List Value} {d : DataW H} {Pl : List MemPlace} (hf : DataW.trod enc Try.prog W 0 (fun _ => true) true n 46 cs = some (d, Pl)) : ∃ r : Rw, cs = [cellR r] ∧ RwOk W W.heap.size r := by
  rcases open_slice Try.underlying46 hf with ⟨hcs, _⟩ | ⟨a, len, cap, m, n, D, Pl, hcs, _, hl, hcm, hm, _, hi⟩
  · exact ⟨⟨none, 0, []⟩, hcs, fun h => absurd rfl h, fun _ => ⟨rfl, rfl⟩, Nat.zero_le _, Nat.zero_le _, fun v hv => by cases hv⟩
  · have hml : len ≤ m := by rw [hm]; split <;> omega
    have each : ∀ i, i < len → ∃ q : Vl, (∀ j u, ([Value.int .i64 q.1, .int .i64 q.2.1, .string q.2.2] : List Value)[j]? = some u → W.cell? ((a.add (i * 3)).add j) = some u) ∧ q.2.2.size ≤ maxLen ∧ (-9223372036854775808 ≤ q.2.1 ∧ q.2.1 ≤ 9223372036854775807) := fun i hi' => by
      obtain ⟨cs, hc, ht⟩ := hi i (by omega)
      rw [cellsVl] at hc
      obtain ⟨q, rfl, hsz⟩ := vl_cells ht
      obtain ⟨_, _, hat⟩ := World.cells?_some hc
      refine ⟨q, fun j u hu => ?_, hsz⟩
      have hj : j < 3 := (List.getElem?_eq_some_iff.1 hu).1
      rw [hat j hj]; exact hu
    have hch : ∃ f : Nat → Vl, ∀ i, i < len → (∀ j u, ([Value.int .i64 (f i).1, .int .i64 (f i).2.1, .string (f i).2.2] : List Value)[j]? = some u → W.cell? ((a.add (i * 3)).add j) = some u) ∧ (f i).2.2.size ≤ maxLen ∧ (-9223372036854775808 ≤ (f i).2.1 ∧ (f i).2.1 ≤ 9223372036854775807) := by
      classical
      refine ⟨fun i => if h : i < len then (each i h).choose else (0, 0, ⟨#[]⟩), fun i h => ?_⟩
      simp only [h, dif_pos]
      exact (each i h).choose_spec
    obtain ⟨f, hfp⟩ := hch
    have hlf : ((List.range len).map f).length = len := by simp
    refine ⟨⟨some a, cap, (List.range len).map f⟩, by rw [hcs]; unfold cellR; simp, ⟨fun hne => ?_, (fun e => by cases e), by simp only [hlf]; exact hl, hcm, fun q hq => ?_⟩⟩
    · have h0 : 0 < len := by
        rcases Nat.eq_zero_or_pos len with e | e
        · exact absurd (by rw [e]; rfl) hne
        · exact e
      obtain ⟨ab, ao, spot⟩ := a
      have hc0 := (hfp 0 h0).1 0 _ rfl
      have hspot : spot = none := by simpa [Addr.add] using World.cell?_spot hc0
      subst hspot
      have hb := cell_lt hc0
      rw [add_block, add_block] at hb
      refine ⟨ab, ao, rfl, hb, fun j q hq => ?_⟩
      have hj : j < len := by have := (List.getElem?_eq_some_iff.1 hq).1; rwa [hlf] at this
      have hqe : f j = q := by
        rw [List.getElem?_map, List.getElem?_range hj] at hq
        simpa using hq
      have hcc := (hfp j hj).1
      rw [hqe] at hcc
      have hadd : ∀ i, ((⟨ab, ao, none⟩ : Addr).add (j * 3)).add i = ⟨ab, ao + j * 3 + i, none⟩ := fun i => by
        unfold Addr.add
        split <;> split <;> simp_all <;> omega
      refine ⟨?_, ?_, ?_⟩
      · have := hcc 0 _ rfl; rwa [hadd] at this
      · have := hcc 1 _ rfl; rwa [hadd] at this
      · have := hcc 2 _ rfl; rwa [hadd] at this
    · obtain ⟨i, hi', rfl⟩ := List.mem_map.1 hq
      exact (hfp i (by simpa using hi')).2
/-- one-cell elements at an address -/
theorem sl1_of {α : Type} {e : α → Value} {W : World} {a : Addr} {len : Nat} {f : Nat → α} (hfp : ∀ i, i < len → W.cell? (a.add (i * 1)) = some (e (f i))) : Sl1 e W W.heap.size (some a) ((List.range len).map f) := fun hne => by
  have hlf : ((List.range len).map f).length = len := by simp
  have h0 : 0 < len := by
    rcases Nat.eq_zero_or_pos len with e | e
    · exact absurd (by rw [e]; rfl) hne
    · exact e
  obtain ⟨ab, ao, spot⟩ := a
  have hc0 := hfp 0 h0
  have hspot : spot = none := by simpa [Addr.add] using World.cell?_spot hc0
  subst hspot
  have hb := cell_lt hc0
  rw [add_block] at hb
  refine ⟨ab, ao, rfl, hb, fun j q hq => ?_⟩
  have hj : j < len := by have := (List.getElem?_eq_some_iff.1 hq).1; rwa [hlf] at this
  have hqe : f j = q := by
    rw [List.getElem?_map, List.getElem?_range hj] at hq
    simpa using hq
  have hcc := hfp j hj
  rw [hqe, addI, Nat.mul_one] at hcc
  exact hcc
set_option maxRecDepth 100000 in
/-- a cell that reads as rows -/
theorem rows_cell {W : World} {n : Nat} {cs : List Value} {d : DataW H} {Pl : List MemPlace} (hf : DataW.trod enc Try.prog W 0 (fun _ => true) true n 32 cs = some (d, Pl)) :
    ∃ (A : Option Addr) (c : Nat) (R : List Rw), cs = [.slice A R.length c] ∧ SlR W W.heap.size A R ∧ R.length ≤ c ∧ c ≤ maxLen ∧ (A = none → R.length = 0 ∧ c = 0) := by
  rcases open_slice Try.underlying32 hf with ⟨hcs, _⟩ | ⟨a, len, cap, m, n, D, Pl, hcs, _, hl, hcm, hm, _, hi⟩
  · exact ⟨none, 0, [], hcs, ⟨sl1_nil, fun r hr => by cases hr⟩, Nat.zero_le _, Nat.zero_le _, fun _ => ⟨rfl, rfl⟩⟩
  · have hml : len ≤ m := by rw [hm]; split <;> omega
    have each : ∀ i, i < len → ∃ q : Rw, W.cell? (a.add (i * 1)) = some (cellR q) ∧ RwOk W W.heap.size q := fun i hi' => by
      obtain ⟨cs, hc, ht⟩ := hi i (by omega)
      rw [cellsRow] at hc
      obtain ⟨q, rfl, hok⟩ := row_cell ht
      obtain ⟨_, _, hat⟩ := World.cells?_some hc
      refine ⟨q, ?_, hok⟩
      have h0 := hat 0 (by simp)
      have e : (a.add (i * 1)).add 0 = a.add (i * 1) := by
        obtain ⟨ab, ao, sp⟩ := a
        unfold Addr.add
        split <;> simp_all
      rw [e] at h0
      exact h0
    have hch : ∃ f : Nat → Rw, ∀ i, i < len → W.cell? (a.add (i * 1)) = some (cellR (f i)) ∧ RwOk W W.heap.size (f i) := by
      classical
      refine ⟨fun i => if h : i < len then (each i h).choose else ⟨none, 0, []⟩, fun i h => ?_⟩
      simp only [h, dif_pos]
      exact (each i h).choose_spec
    obtain ⟨f, hfp⟩ := hch
    have hlf : ((List.range len).map f).length = len := by simp
    refine ⟨some a, cap, (List.range len).map f, by rw [hcs, hlf], ⟨sl1_of fun i hi => (hfp i hi).1, fun q hq => ?_⟩, by rw [hlf]; exact hl, hcm, fun e => by cases e⟩
    obtain ⟨i, hi', rfl⟩ := List.mem_map.1 hq
    exact (hfp i (by simpa using hi')).2
set_option maxRecDepth 100000 in
/-- a cell that reads as names -/
theorem cols_cell {W : World} {n : Nat} {cs : List Value} {d : DataW H} {Pl : List MemPlace} (hf : DataW.trod enc Try.prog W 0 (fun _ => true) true n 31 cs = some (d, Pl)) :
    ∃ (A : Option Addr) (c : Nat) (l : List ByteArray), cs = [.slice A l.length c] ∧ SlC W W.heap.size A l ∧ l.length ≤ c ∧ c ≤ maxLen ∧ (A = none → l.length = 0 ∧ c = 0) := by
  rcases open_slice Try.underlying31 hf with ⟨hcs, _⟩ | ⟨a, len, cap, m, n, D, Pl, hcs, _, hl, hcm, hm, _, hi⟩
  · exact ⟨none, 0, [], hcs, sl1_nil, Nat.zero_le _, Nat.zero_le _, fun _ => ⟨rfl, rfl⟩⟩
  · have hml : len ≤ m := by rw [hm]; split <;> omega
    have each : ∀ i, i < len → ∃ q : ByteArray, W.cell? (a.add (i * 1)) = some (strV q) := fun i hi' => by
      obtain ⟨cs, hc, ht⟩ := hi i (by omega)
      rw [cellsStr] at hc
      obtain ⟨q, rfl, _, _⟩ := DataW.trod_string Try.underlying9 ht
      obtain ⟨_, _, hat⟩ := World.cells?_some hc
      refine ⟨q, ?_⟩
      have h0 := hat 0 (by simp)
      have e : (a.add (i * 1)).add 0 = a.add (i * 1) := by
        obtain ⟨ab, ao, sp⟩ := a
        unfold Addr.add
        split <;> simp_all
      rw [e] at h0
      exact h0
    have hch : ∃ f : Nat → ByteArray, ∀ i, i < len → W.cell? (a.add (i * 1)) = some (strV (f i)) := by
      classical
      refine ⟨fun i => if h : i < len then (each i h).choose else ⟨#[]⟩, fun i h => ?_⟩
      simp only [h, dif_pos]
      exact (each i h).choose_spec
    obtain ⟨f, hfp⟩ := hch
    have hlf : ((List.range len).map f).length = len := by simp
    exact ⟨some a, cap, (List.range len).map f, by rw [hcs, hlf], sl1_of hfp, by rw [hlf]; exact hl, hcm, fun e => by cases e⟩
set_option maxRecDepth 100000 in
theorem open_rows {W : World} {base : Nat} {v : Value} {d : DataW H} {p : List MemPlace} (hval : Value.okWide Try.prog W .any base 32 v) (h : DataW.Trod enc Try.prog W 0 (fun _ => true) true 32 v d p) :
    ∃ (A : Option Addr) (c : Nat) (R : List Rw), v = .slice A R.length c ∧ SlR W W.heap.size A R ∧ R.length ≤ c ∧ c ≤ maxLen ∧ (A = none → R.length = 0 ∧ c = 0) := by
  obtain ⟨a1, len, cap, rfl⟩ := okWide_slice Try.underlying32 hval
  obtain ⟨fuel, hf⟩ := h
  obtain ⟨A, c, R, hcs, h1, h2, h3, h4⟩ := rows_cell hf
  simp [Value.cells] at hcs
  obtain ⟨rfl, rfl, rfl⟩ := hcs
  exact ⟨_, _, _, rfl, h1, h2, h3, h4⟩
set_option maxRecDepth 100000 in
theorem open_cols {W : World} {base : Nat} {v : Value} {d : DataW H} {p : List MemPlace} (hval : Value.okWide Try.prog W .any base 31 v) (h : DataW.Trod enc Try.prog W 0 (fun _ => true) true 31 v d p) :
    ∃ (A : Option Addr) (c : Nat) (l : List ByteArray), v = .slice A l.length c ∧ SlC W W.heap.size A l ∧ l.length ≤ c ∧ c ≤ maxLen ∧ (A = none → l.length = 0 ∧ c = 0) := by
  obtain ⟨a1, len, cap, rfl⟩ := okWide_slice Try.underlying31 hval
  obtain ⟨fuel, hf⟩ := h
  obtain ⟨A, c, R, hcs, h1, h2, h3, h4⟩ := cols_cell hf
  simp [Value.cells] at hcs
  obtain ⟨rfl, rfl, rfl⟩ := hcs
  exact ⟨_, _, _, rfl, h1, h2, h3, h4⟩
set_option maxRecDepth 100000 in
theorem rows_after {W W' : World} {v : Value} {d : DataW H} {p : List MemPlace} (h : DataW.Trod enc Try.prog W 0 (fun _ => true) true 32 v d p) (hb : Below W.heap.size W W') (hlt : ∀ x ∈ p, x.block < W.heap.size) :
    DataW.Trod enc Try.prog W' 0 (fun b => decide (b < W.heap.size)) true 32 v d p := Below.trod laidOut (by kernel_rfl) (of_decide_eq_true (by kernel_rfl)) h hb hlt
set_option maxRecDepth 100000 in
theorem cols_after {W W' : World} {v : Value} {d : DataW H} {p : List MemPlace} (h : DataW.Trod enc Try.prog W 0 (fun _ => true) true 31 v d p) (hb : Below W.heap.size W W') (hlt : ∀ x ∈ p, x.block < W.heap.size) :
    DataW.Trod enc Try.prog W' 0 (fun b => decide (b < W.heap.size)) true 31 v d p := Below.trod laidOut (by kernel_rfl) (of_decide_eq_true (by kernel_rfl)) h hb hlt
end
end Go.Proofs.Ytofmfainhflmmaa
