/-
  PLAIN FACTS OF THE MACHINE: what has been drawn from the tape is never given back.
-/
import Derived.Calls
import Derived.Test.YtofmfainhflmmaaPure
namespace Go.Proofs.Ytofmfainhflmmaa
open Go

theorem ask_drawn {α : Type} (q : Ask α) : ∀ w : World, w.drawn ≤ (w.ask q).2.drawn := by
  induction q with
  | done a => intro w; exact Nat.le_refl _
  | ask what range k ih =>
    intro w
    unfold World.ask
    dsimp only
    split
    · exact ih _ _
    · exact Nat.le_trans (Nat.le_succ _) (ih _ { w with drawn := w.drawn + 1 })
theorem sys_drawn (w : World) (c : Sys) : w.drawn ≤ (w.sys c).2.drawn := by
  have h := ask_drawn (Kernel.perform c w.os) w
  unfold World.sys
  generalize w.ask (Kernel.perform c w.os) = r at h
  obtain ⟨⟨a, os⟩, w1⟩ := r
  split
  · exact Nat.le_refl _
  · rename_i heq
    cases heq
    exact h
theorem viewStore_drawn {p : Program} {w w' : World} {a b : Addr} {u : TypeId} {v : Value} {t : Bool} {l : List Addr} (h : w.viewStore p a u b v t = .ok (w', l)) : w'.drawn = w.drawn := by
  unfold World.viewStore at h
  simp only [bind, Except.bind, pure, Except.pure] at h
  repeat' split at h
  all_goals first
    | (cases h; rfl)
    | cases h
theorem farStore_drawn {p : Program} {w w' : World} {a : Addr} {v : Value} {t : Bool} {l : List Addr} (h : w.farStore p a v t = .ok (w', l)) : w'.drawn = w.drawn := by
  unfold World.farStore at h
  split at h
  · split at h
    · rename_i r hr
      cases h
      exact viewStore_drawn hr
    · cases h
  · cases h
def resW {α : Type} : Result α → World
  | .ok _ w => w
  | .halt _ w => w
theorem run_drawn {α : Type} (p : Program) (e : Sem α) : ∀ w : World, w.drawn ≤ (resW (e.run p w)).drawn := by
  induction e with
  | pure a => intro w; exact Nat.le_refl _
  | load m a k ih =>
    intro w
    simp only [Sem.run]
    split
    · exact ih _ w
    · split
      · exact ih _ w
      · exact Nat.le_refl _
  | store m a v k ih =>
    intro w
    cases v <;> simp only [Sem.run] <;>
      first
        | exact Nat.le_refl _
        | (split
           · split
             · exact Nat.le_refl _
             · exact Nat.le_trans (Nat.le_of_eq (by rfl)) (ih _)
           · split
             · rename_i h
               exact Nat.le_trans (Nat.le_of_eq (farStore_drawn h).symm) (ih _)
             · exact Nat.le_refl _)
  | new o k ih => intro w; simp only [Sem.run]; exact Nat.le_trans (Nat.le_of_eq (by rfl)) (ih _ _)
  | shape r k ih => intro w; simp only [Sem.run]; exact ih _ w
  | freeze a n k ih => intro w; simp only [Sem.run]; exact Nat.le_trans (Nat.le_of_eq (by unfold World.freeze; split <;> rfl)) (ih _)
  | frozen a k ih => intro w; simp only [Sem.run]; exact ih _ w
  | getObj r k ih =>
    intro w
    simp only [Sem.run]
    split
    · exact Nat.le_refl _
    · exact ih _ w
    · exact Nat.le_refl _
  | setObj r o k ih =>
    intro w
    simp only [Sem.run]
    split
    · exact Nat.le_refl _
    · exact Nat.le_trans (Nat.le_of_eq (by rfl)) (ih _)
    · exact Nat.le_refl _
  | choose q k ih =>
    intro w
    simp only [Sem.run]
    split
    · exact ih _ w
    · exact Nat.le_trans (Nat.le_succ _) (ih _ { w with drawn := w.drawn + 1 })
  | sys c k ih => intro w; simp only [Sem.run]; exact Nat.le_trans (sys_drawn w c) (ih _ _)
  | program k ih => intro w; simp only [Sem.run]; exact ih _ w
  | mark m k ih => intro w; simp only [Sem.run]; exact ih w
  | halt h => intro w; exact Nat.le_refl _
theorem ok_drawn {α : Type} {p : Program} {e : Sem α} {w w' : World} {a : α} (h : e.run p w = .ok a w') : w.drawn ≤ w'.drawn := by
  have := run_drawn p e w
  rw [h] at this
  exact this
theorem halt_drawn {α : Type} {p : Program} {e : Sem α} {w w' : World} {a : Halt} (h : e.run p w = .halt a w') : w.drawn ≤ w'.drawn := by
  have := run_drawn p e w
  rw [h] at this
  exact this

/-- a step of a goroutine that leads on -/
def leG (n : Nat) : GStep → Prop
  | .go _ w _ => n ≤ w.drawn
  | .comm _ _ _ _ w _ => n ≤ w.drawn
  | .spawn _ _ w _ => n ≤ w.drawn
  | .count _ w _ => n ≤ w.drawn
  | .timer _ _ w _ => n ≤ w.drawn
  | .alone _ _ w _ => n ≤ w.drawn
  | .newcoro _ _ _ w _ => n ≤ w.drawn
  | .coroswitch _ _ _ w _ => n ≤ w.drawn
  | .collect _ w _ => n ≤ w.drawn
  | .watch _ w _ => n ≤ w.drawn
  | .ended _ _ _ => True
theorem leG_after {n : Nat} {es : Array Event} {s : GStep} (h : leG n s) : leG n (GStep.after es s) := by
  cases s <;> exact h
theorem leG_mono {n m : Nat} {s : GStep} (h : leG n s) (hm : m ≤ n) : leG m s := by
  cases s <;> first | exact Nat.le_trans hm h | trivial
theorem endWith_le (n : Nat) (w : World) (fd : Nat) (t : ByteArray) (o : Outcome) : leG n (endWith w fd t o) := by
  unfold endWith
  dsimp only
  split
  · split <;> trivial
  · trivial
  · trivial
theorem dieOf_le (fr : Frame) (l : List ByteArray) (m : String) (b : Bool) (w : World) : leG w.drawn (dieOf fr l m b w) := Nat.le_refl _
theorem endThrow_le (fr : Frame) (m : String) (w : World) : leG w.drawn (endThrow fr m w) := Nat.le_refl _
theorem endPrinting_le (p : Program) (fr : Frame) (v : Value) (w : World) : leG w.drawn (endPrinting p fr v w) := by
  unfold endPrinting
  dsimp only
  split
  · exact endThrow_le _ _ _
  · trivial
theorem endFatal_le (p : Program) (fr : Frame) (cs : List Frame) (d : Option Dying) (m : String) (w : World) : leG w.drawn (endFatal p fr cs d m w) := by
  unfold endFatal
  dsimp only
  split
  · rename_i h
    exact leG_mono (dieOf_le _ _ _ _ _) (ok_drawn h)
  · trivial
  · trivial
theorem writeOn_le (p : Program) (fr : Frame) (d : Dying) (f : Fatal) (w : World) : leG w.drawn (writeOn p fr d f w) := by
  unfold writeOn
  dsimp only
  split
  · trivial
  · simp only [Sem.runT_eq]
    split
    · rename_i h
      exact ok_drawn (congrArg Prod.fst h)
    · rename_i h
      exact halt_drawn (congrArg Prod.fst h)
    · trivial
    · trivial
theorem leG_ite {n : Nat} {c : Prop} [Decidable c] {a b : GStep} (ha : leG n a) (hb : leG n b) : leG n (if c then a else b) := by
  split
  · exact ha
  · exact hb
theorem die_le (p : Program) (fr : Frame) (d : Dying) (w : World) : leG w.drawn (die p fr d w) := by
  unfold die
  split
  · exact writeOn_le _ _ _ _ _
  · split
    · split
      · exact Nat.le_refl _
      · exact endWith_le _ _ _ _ _
    · dsimp only
      split
      · exact Nat.le_refl _
      · split
        · rename_i h
          exact ok_drawn h
        · trivial
      · simp only [Sem.runT_eq]
        refine leG_after ?_
        split
        · rename_i h
          exact ok_drawn h
        · rename_i h
          exact ok_drawn h
        · trivial
        · rename_i h
          exact leG_mono (endPrinting_le _ _ _ _) (halt_drawn h)
        · trivial
      · trivial
theorem doReturn_le (p : Program) (main : Bool) (fr : Frame) (cs : List Frame) (d : Option Dying) (v : Value) (w : World) : leG w.drawn (doReturn p main fr cs d v w) := by
  unfold doReturn
  dsimp only
  repeat' split
  all_goals first | exact Nat.le_refl _ | trivial
theorem callDeferred_le (p : Program) (fr : Frame) (cs : List Frame) (d : Option Dying) (df : Deferred) (w : World) : leG w.drawn (callDeferred p fr cs d df w) := by
  unfold callDeferred
  refine leG_ite trivial ?_
  simp only [Sem.runT_eq]
  refine leG_after ?_
  split
  all_goals first
    | trivial
    | (rename_i h; exact ok_drawn h)
    | (rename_i h; exact halt_drawn h)
    | (rename_i h; exact leG_mono (endFatal_le _ _ _ _ _ _) (halt_drawn h))
    | (rename_i h; exact leG_mono (endThrow_le _ _ _) (halt_drawn h))
    | (rename_i h; split <;> exact ok_drawn h)
    | (exact ok_drawn ‹_›)
    | (exact halt_drawn ‹_›)
theorem unwind_le (p : Program) (main : Bool) (fr : Frame) (cs : List Frame) (d : Option Dying) (w : World) : leG w.drawn (unwind p main fr cs d w) := by
  unfold unwind
  split
  · simp only [Sem.runT_eq]
    refine leG_after ?_
    split
    · rename_i h
      exact ok_drawn h
    · trivial
  · exact callDeferred_le _ _ _ _ _ _
  · split
    · trivial
    · split
      · trivial
      · split
        · exact Nat.le_refl _
        · split
          · split
            · exact Nat.le_refl _
            · split
              · rename_i h
                exact ok_drawn h
              · trivial
              · trivial
          · split
            · exact endPrinting_le _ _ _ _
            · trivial
    · split
      · exact doReturn_le _ _ _ _ _ _ _
      · simp only [Sem.runT_eq]
        refine leG_after ?_
        split
        · rename_i h
          exact leG_mono (doReturn_le _ _ _ _ _ _ _) (ok_drawn h)
        · trivial
        · trivial
theorem early_le (p : Program) (fr : Frame) (cs : List Frame) (d : Option Dying) (g : Nat) (w : World) : leG w.drawn (early p fr cs d g w) := by
  unfold early
  dsimp only
  repeat' split
  all_goals first
    | trivial
    | exact Nat.le_refl _
    | (rename_i h _ _ _ _; have h2 := ok_drawn h; exact h2)
    | (rename_i h _ _; have h2 := ok_drawn h; exact h2)
    | (rename_i h _; have h2 := ok_drawn h; exact h2)
    | (rename_i h; have h2 := ok_drawn h; exact h2)
theorem apply_le (p : Program) (listen : Bool) (fr : Frame) (cs : List Frame) (d : Option Dying) (s : Sem Next) (w : World) : leG w.drawn (stepG.apply p listen fr cs d s w) := by
  have hr := run_drawn p s w
  have hf : ((if listen = true then (Sem.run p s w, Sem.events p s w #[]) else (Sem.run p s w, #[])) : Result Next × Array Event).fst = Sem.run p s w := by split <;> rfl
  unfold stepG.apply
  simp only [Sem.runT_eq]
  refine leG_after ?_
  rw [hf]
  generalize Sem.run p s w = r at hr
  clear hf
  split
  all_goals first
    | trivial
    | exact hr
    | exact leG_mono (endFatal_le _ _ _ _ _ _) hr
    | exact leG_mono (endThrow_le _ _ _) hr
    | exact leG_mono (early_le _ _ _ _ _ _) hr
    | exact leG_ite (leG_mono (endThrow_le _ _ _) hr) hr
    | (split <;> first | exact hr | exact leG_mono (endThrow_le _ _ _) hr | exact leG_ite (leG_mono (endThrow_le _ _ _) hr) hr)
theorem oper_le (p : Program) (listen : Bool) (fr : Frame) (cs : List Frame) (d : Option Dying) (w : World) : leG w.drawn (stepG.oper p listen fr cs d w) := by
  unfold stepG.oper
  split
  · trivial
  · split
    · exact apply_le _ _ _ _ _ _ _
    · exact apply_le _ _ _ _ _ _ _
theorem leave_le (p : Program) (main : Bool) (fr : Frame) (cs : List Frame) (d : Option Dying) (jump : Option Code) (b : Bool) (w : World) {g : GStep} (hg : leG w.drawn g) (es : Nat → Array Event) :
    leG w.drawn (match fr.roundOf with
      | none => if b = true then g else .ended (.stuck "exit, goto: no such block or label" (fr.pos p)) w
      | some l => GStep.after (es l) (match ((Instr.endRound l jump).runT p w #[]).fst with
        | .ok v w => doReturn p main fr cs d v w
        | .halt _ w => .ended (.stuck "range over a function: no such loop" (fr.pos p)) w)) := by
  split
  · exact leG_ite hg trivial
  · refine leG_after ?_
    simp only [Sem.runT_eq]
    split
    · rename_i h
      exact leG_mono (doReturn_le _ _ _ _ _ _ _) (ok_drawn h)
    · trivial
theorem leG_elim {α : Type} {n : Nat} {o : Option α} {a : GStep} {f : α → GStep} (ha : leG n a) (hf : ∀ x, leG n (f x)) : leG n (o.elim a f) := by
  cases o with
  | none => exact ha
  | some x => exact hf x
theorem exec_le (p : Program) (main listen : Bool) (fr : Frame) (cs : List Frame) (d : Option Dying) (w : World) : leG w.drawn (stepG.exec p main listen fr cs d w) := by
  unfold stepG.exec
  dsimp only
  split
  all_goals first
    | trivial
    | exact Nat.le_refl _
    | exact apply_le _ _ _ _ _ _ _
    | exact leave_le p main fr cs d _ _ w (Nat.le_refl _) (fun _ => _)
    | skip
  all_goals first
    | exact leG_elim (leave_le p main fr cs d _ _ w (Nat.le_refl _) (fun _ => _)) (fun _ => Nat.le_refl _)
    | exact leG_elim trivial (fun _ => apply_le _ _ _ _ _ _ _)
    | exact leG_ite (oper_le _ _ _ _ _ _) (Nat.le_refl _)
    | (refine leG_ite (Nat.le_refl _) ?_
       split
       · exact ok_drawn ‹_›
       · trivial)
    | (refine leG_after ?_
       simp only [Sem.runT_eq]
       split
       all_goals first
         | trivial
         | (rename_i h; exact leG_mono (apply_le _ _ _ _ _ _ _) (ok_drawn h))
         | (rename_i h; exact ok_drawn h)
         | (rename_i h; exact halt_drawn h))
    | (split
       · exact Nat.le_refl _
       · trivial)
theorem stepG_le (p : Program) (main : Bool) (g : Goroutine) (w : World) (listen : Bool) : leG w.drawn (stepG p main g w listen) := by
  unfold stepG
  dsimp only
  split
  · exact die_le _ _ _ _
  · exact exec_le _ _ _ _ _ _ _
  · exact unwind_le _ _ _ _ _ _

/-- a step of the machine -/
def leS (n : Nat) : Stepped → Prop
  | .next m => n ≤ m.world.drawn
  | _ => True
theorem leS_mono {n m : Nat} {s : Stepped} (h : leS n s) (hm : m ≤ n) : leS m s := by
  cases s <;> first | exact Nat.le_trans hm h | trivial
theorem leS_ite {n : Nat} {c : Prop} [Decidable c] {a b : Stepped} (ha : leS n a) (hb : leS n b) : leS n (if c then a else b) := by
  split
  · exact ha
  · exact hb
theorem look_le (p : Program) (gs : Array Goroutine) (rest : Go.Rest) (w : World) : leS w.drawn (look p gs rest w) := by
  unfold look
  dsimp only
  split
  · refine leS_ite trivial ?_
    split
    · trivial
    · split
      · rename_i h
        have h2 := ok_drawn h
        exact h2
      · trivial
      · trivial
  · trivial
theorem leS_fst_ite {n : Nat} {c : Prop} [Decidable c] {a b : Stepped × Array MemOp} (ha : leS n a.1) (hb : leS n b.1) : leS n (if c then a else b).1 := by
  split
  · exact ha
  · exact hb
theorem communicate_le (p : Program) (rest : Go.Rest) (gs : Array Goroutine) (i : Nat) (g : Goroutine) (cases : Array CommCase) (b : Bool) (sh : CommShape) (w : World) : leS w.drawn (communicate p rest gs i g cases b sh w).1 := by
  unfold communicate
  dsimp only
  refine leS_fst_ite trivial ?_
  refine leS_fst_ite (leS_fst_ite ?_ (Nat.le_refl _)) ?_
  · split
    · rename_i w1 h
      unfold waitingAt at h
      split at h
      · split at h
        · cases h
          exact Nat.le_refl _
        · cases h
      · cases h
        exact Nat.le_refl _
    · trivial
  · split
    · trivial
    · rename_i h
      have h0 := ok_drawn h
      split
      · split
        · rename_i h1
          exact Nat.le_trans h0 (halt_drawn h1)
        · trivial
      · exact h0
      · exact h0
      · split
        · exact h0
        · split
          · rename_i h1
            have h2 := ok_drawn h1
            exact Nat.le_trans h0 h2
          · trivial
      · exact h0
      · exact h0
      · trivial
theorem drain_le (w : World) (c : Nat) : (drain w c).2.drawn = w.drawn := by
  unfold drain
  split <;> rfl
theorem retime_le (m : Machine) (k : Nat) (t : Timer) (a b : Nat) : (retime m k t a b).2.world.drawn = m.world.drawn := by
  unfold retime
  dsimp only
  split
  · exact drain_le _ _
  · rfl
theorem timerOp_le {m m' : Machine} {op : TimerOp} {v : Value} (h : timerOp m op = .ok (v, m')) : m.world.drawn ≤ m'.world.drawn := by
  have nm : ∀ (N : Nat) (m : Machine) (var : Addr) (f : Nat → Timer → Value × Machine) (v : Value) (m' : Machine), (∀ k t, (f k t).2.world.drawn = N) → timerOp.named m var f = .ok (v, m') → m'.world.drawn = N := by
    intro N m var f v m' hf h
    unfold timerOp.named at h
    split at h
    · rename_i k hk
      have := hf k (m.rest.timers.getD k default)
      cases hq : f k (m.rest.timers.getD k default) with
      | mk a b =>
        rw [hq] at h this
        cases h
        exact this
    · cases h
  unfold timerOp at h
  split at h
  · split at h
    · cases h
      exact Nat.le_refl _
    · split at h
      · split at h
        · cases h
        · cases h
          exact Nat.le_refl _
      · cases h
  · exact Nat.le_of_eq (nm m.world.drawn _ _ _ _ _ (fun k t => retime_le _ _ _ _ _) h).symm
  · split at h
    · rename_i m1 hm
      have e1 := nm m1.world.drawn _ _ _ _ _ (fun k t => retime_le _ _ _ _ _) h
      have e2 : m1.world.drawn = m.world.drawn := by
        unfold timerOp.opened at hm
        split at hm
        · split at hm
          · cases hm; rfl
          · cases hm
        · cases hm; rfl
      omega
    · cases h
  · cases h
    exact Nat.le_refl _
theorem serve_le (p : Program) (m : Machine) (k : Nat) : leS m.world.drawn (serve p m k) := by
  unfold serve
  split
  · trivial
  · exact Nat.le_refl _
  · dsimp only
    split
    · trivial
    · exact Nat.le_refl _
theorem runT_le (p : Program) (m : Machine) (i : Nat) (listen : Bool) : leS m.world.drawn (runT p m i listen).1 := by
  unfold runT
  dsimp only
  generalize hg : m.gs.swapAt! i { (default : Goroutine) with status := .finished } = gg
  obtain ⟨g, gs⟩ := gg
  dsimp only
  have h := stepG_le p (i == 0) g m.world listen
  generalize stepG p (i == 0) g m.world listen = s at h
  cases s with
  | ended o w es => trivial
  | comm g cases b sh w es => exact leS_mono (communicate_le _ _ _ _ _ _ _ _ _) h
  | go g w es => exact h
  | spawn g c w es => exact h
  | count g w es => exact leS_ite trivial h
  | alone g on w es => exact h
  | collect g w es => exact leS_mono (look_le _ _ _ _) h
  | watch g w es => exact h
  | newcoro g c d w es => exact h
  | coroswitch g c e w es =>
    dsimp only
    split
    · exact h
    · exact h
    · trivial
  | timer g op w es =>
    dsimp only
    split
    · rename_i h1
      exact Nat.le_trans h (timerOp_le h1)
    · exact h
    · trivial
    · trivial
def leM (n : Nat) : Move → Prop
  | .goroutine m _ => n ≤ m.world.drawn
  | .machine s _ => leS n s
theorem leM_mono {n m : Nat} {s : Move} (h : leM n s) (hm : m ≤ n) : leM m s := by
  cases s with
  | goroutine => exact Nat.le_trans hm h
  | machine => exact leS_mono h hm
theorem leM_ite {n : Nat} {c : Prop} [Decidable c] {a b : Move} (ha : leM n a) (hb : leM n b) : leM n (if c then a else b) := by
  split
  · exact ha
  · exact hb
theorem askOn_le (p : Program) (m : Machine) : leM m.world.drawn (askOn p m) := by
  unfold askOn
  dsimp only
  split
  · trivial
  · rename_i k w1 h
    have h0 := ok_drawn h
    refine leM_ite (leS_mono (serve_le _ _ _) h0) ?_
    have pick : ∀ (m1 : Machine) (rs : List Nat), m.world.drawn ≤ m1.world.drawn → leM m.world.drawn (match (choose (.sched rs.length)).run p m1.world with
      | .halt _ w => .machine (.ended (.stuck "sched" "") w)
      | .ok k world =>
        if rs.length ≤ 1 then .goroutine { m1 with world } (rs.getD k 0) else
        match (choose (.extern "sched.slice" 65536)).run p world with
        | .halt _ w => .machine (.ended (.stuck "sched.slice" "") w)
        | .ok n world => .goroutine { m1 with world, rest := { m1.rest with slice := if n = 0 then none else some (rs.getD k 0, n) } } (rs.getD k 0)) := by
      intro m1 rs hm
      split
      · trivial
      · rename_i h1
        have h2 := Nat.le_trans hm (ok_drawn h1)
        refine leM_ite h2 ?_
        split
        · trivial
        · rename_i h3
          have h4 := Nat.le_trans h2 (ok_drawn h3)
          exact h4
    split
    · split
      · exact h0
      · refine leM_ite h0 ?_
        split <;> trivial
    · split
      · exact pick { m with world := w1 } _ h0
      · split
        · trivial
        · rename_i h1
          have h2 := Nat.le_trans h0 (ok_drawn h1)
          exact pick { m with world := _ } _ h2
        · rename_i h1
          have h2 := Nat.le_trans h0 (ok_drawn h1)
          exact h2
        · rename_i h1
          have h2 := Nat.le_trans h0 (ok_drawn h1)
          exact pick (Machine.advanceTo { m with world := _ } _) _ h2
theorem ask_le (p : Program) (m : Machine) : leM m.world.drawn (ask p m) := by
  unfold ask
  split
  · split
    · trivial
    · rename_i w1 h
      have h0 := ok_drawn h
      have h2 := look_le p m.gs m.rest w1
      split
      · rename_i h1
        rw [h1] at h2
        exact leM_mono (askOn_le _ _) (Nat.le_trans h0 h2)
      · exact leS_mono h2 h0
    · rename_i h
      have h0 := ok_drawn h
      exact leM_mono (askOn_le _ _) h0
  · exact askOn_le _ _
theorem move_le (p : Program) (m : Machine) : leM m.world.drawn (move p m) := by
  unfold move
  split
  · exact leM_ite (Nat.le_refl _) trivial
  · split
    · exact leM_ite (Nat.le_refl _) (ask_le _ _)
    · exact ask_le _ _
theorem step_drawn (p : Program) (m : Machine) : leS m.world.drawn (step p m) := by
  unfold step stepT
  have h := move_le p m
  generalize move p m = mv at h
  cases mv with
  | goroutine m1 i => exact leS_mono (runT_le _ _ _ _) h
  | machine s ops => exact h
theorem runN_drawn (p : Program) : ∀ (n : Nat) (m m' : Machine), runN p n m = .next m' → m.world.drawn ≤ m'.world.drawn
  | 0, m, m', h => by
    simp [runN] at h
    rw [h]
    exact Nat.le_refl _
  | n + 1, m, m', h => by
    have h2 := step_drawn p m
    unfold runN at h
    split at h
    · rename_i m1 h1
      rw [h1] at h2
      exact Nat.le_trans h2 (runN_drawn p n _ _ h)
    · rename_i h1
      exact absurd h (fun h => h1 _ h)
theorem steps_drawn {p : Program} {m m' : Machine} (h : Steps p m m') : m.world.drawn ≤ m'.world.drawn := by
  obtain ⟨n, hn⟩ := h
  exact runN_drawn p n m m' hn
/-- a call never gives back what was drawn -/
theorem calls_drawn {p : Program} {f : FuncId} {args : Array Value} {w : World} {R : Ending → World → Prop} (h : Calls p f args w R) (hR : ∀ e w', R e w' → e ≠ .outgrown) :
    Calls p f args w fun e w' => R e w' ∧ w.drawn ≤ w'.drawn := fun cs => by
  obtain ⟨e, w', fr, r, s, x⟩ := h cs
  refine ⟨e, w', fr, ⟨r, ?_⟩, s, x⟩
  cases e with
  | outgrown => exact absurd rfl (hR _ _ r)
  | returned v => exact steps_drawn (m := lone (Frame.enter p f args .normal) cs w) (m' := lone fr cs w') s
  | panicked c => exact steps_drawn (m := lone (Frame.enter p f args .normal) cs w) (m' := lone fr cs w') s
end Go.Proofs.Ytofmfainhflmmaa
