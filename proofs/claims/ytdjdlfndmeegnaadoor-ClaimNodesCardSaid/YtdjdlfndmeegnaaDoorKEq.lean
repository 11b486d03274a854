/-
  EQUALITY (==) of values, entities, terms and forms.
-/
import Derived.Test.YtdjdlfndmeegnaaDoorKPure
namespace Go.Proofs.YtdjdlfndmeegnaaDoor
open Go.RowKit

theorem fldV (d : Nat) (k n : Int) (s : ByteArray) (k' n' : Int) (s' : ByteArray) (w : World) : (Op.equalIn (d + 2) 23 (.agg #[.int .i64 k, .int .i64 n, .string s]) (.agg #[.int .i64 k', .int .i64 n', .string s'])).run Tryd.prog w = .ok (sameV k n s k' n' s') w := by
  have u3 := Tryd.underlying3
  have u2 := Tryd.underlying2
  have u9 := Tryd.underlying9
  have u4 := Tryd.underlying4
  have a3 := Tryd.isAgg3
  have a2 := Tryd.isAgg2
  have a9 := Tryd.isAgg9
  have a4 := Tryd.isAgg4
  have hSValue : Tryd.prog.underlying 23 = some (.struct (Tryd.prog.fieldsOf 23)) := by kernel_rfl
  have hpValue : Tryd.prog.stoodInHeld 23 = false := by kernel_rfl
  have agValue := Tryd.isAgg23
  rw [run_equalIn_agg w (d + 1) 23 _ _ hSValue hpValue]
  simp only [Program.fieldsOf, Tryd.underlying23]
  unfold sameV
  cases h0 : (k == k')
  · go_simp
  cases h1 : (n == n')
  · go_simp
  cases h2 : (s.toList == s'.toList)
  · go_simp
  go_simp

set_option maxRecDepth 100000 in
theorem fldE (d : Nat) (x y : En) (w : World) : (Op.equalIn (d + 3) 25 (.agg #[.int .i64 x.k, .int .i64 x.n, .string x.nm, .int .i64 x.vk, .int .i64 x.vn, .string x.vs]) (.agg #[.int .i64 y.k, .int .i64 y.n, .string y.nm, .int .i64 y.vk, .int .i64 y.vn, .string y.vs])).run Tryd.prog w = .ok (sameE x y) w := by
  have u3 := Tryd.underlying3
  have u2 := Tryd.underlying2
  have u9 := Tryd.underlying9
  have u4 := Tryd.underlying4
  have a3 := Tryd.isAgg3
  have a2 := Tryd.isAgg2
  have a9 := Tryd.isAgg9
  have a4 := Tryd.isAgg4
  have hSValue : Tryd.prog.underlying 23 = some (.struct (Tryd.prog.fieldsOf 23)) := by kernel_rfl
  have hpValue : Tryd.prog.stoodInHeld 23 = false := by kernel_rfl
  have agValue := Tryd.isAgg23
  have hSEntity : Tryd.prog.underlying 25 = some (.struct (Tryd.prog.fieldsOf 25)) := by kernel_rfl
  have hpEntity : Tryd.prog.stoodInHeld 25 = false := by kernel_rfl
  have agEntity := Tryd.isAgg25
  have fV := fun w => fldV d x.vk x.vn x.vs y.vk y.vn y.vs w
  rw [run_equalIn_agg w (d + 2) 25 _ _ hSEntity hpEntity]
  simp only [Program.fieldsOf, Tryd.underlying25]
  unfold sameE
  cases h0 : (x.k == y.k)
  · go_simp
  cases h1 : (x.n == y.n)
  · go_simp
  cases h2 : (x.nm.toList == y.nm.toList)
  · go_simp
  cases h3 : (sameV x.vk x.vn x.vs y.vk y.vn y.vs)
  · go_simp
  go_simp

set_option maxRecDepth 100000 in
theorem fldT (d : Nat) (x y : Tm) (w : World) : (Op.equalIn (d + 4) 27 (.agg #[.bool x.ent, .int .i64 x.vk, .int .i64 x.vn, .string x.vs, .int .i64 x.e.k, .int .i64 x.e.n, .string x.e.nm, .int .i64 x.e.vk, .int .i64 x.e.vn, .string x.e.vs]) (.agg #[.bool y.ent, .int .i64 y.vk, .int .i64 y.vn, .string y.vs, .int .i64 y.e.k, .int .i64 y.e.n, .string y.e.nm, .int .i64 y.e.vk, .int .i64 y.e.vn, .string y.e.vs])).run Tryd.prog w = .ok (sameT x y) w := by
  have u3 := Tryd.underlying3
  have u2 := Tryd.underlying2
  have u9 := Tryd.underlying9
  have u4 := Tryd.underlying4
  have a3 := Tryd.isAgg3
  have a2 := Tryd.isAgg2
  have a9 := Tryd.isAgg9
  have a4 := Tryd.isAgg4
  have hSValue : Tryd.prog.underlying 23 = some (.struct (Tryd.prog.fieldsOf 23)) := by kernel_rfl
  have hpValue : Tryd.prog.stoodInHeld 23 = false := by kernel_rfl
  have agValue := Tryd.isAgg23
  have hSEntity : Tryd.prog.underlying 25 = some (.struct (Tryd.prog.fieldsOf 25)) := by kernel_rfl
  have hpEntity : Tryd.prog.stoodInHeld 25 = false := by kernel_rfl
  have agEntity := Tryd.isAgg25
  have hSTerm : Tryd.prog.underlying 27 = some (.struct (Tryd.prog.fieldsOf 27)) := by kernel_rfl
  have hpTerm : Tryd.prog.stoodInHeld 27 = false := by kernel_rfl
  have agTerm := Tryd.isAgg27
  have fV := fun w => fldV (d + 1) x.vk x.vn x.vs y.vk y.vn y.vs w
  have fE := fun w => fldE d x.e y.e w
  rw [run_equalIn_agg w (d + 3) 27 _ _ hSTerm hpTerm]
  simp only [Program.fieldsOf, Tryd.underlying27]
  unfold sameT
  cases h0 : (x.ent == y.ent)
  · go_simp
  cases h1 : (sameV x.vk x.vn x.vs y.vk y.vn y.vs)
  · go_simp
  cases h2 : (sameE x.e y.e)
  · go_simp
  go_simp

set_option maxRecDepth 100000 in
theorem fldF (d : Nat) (x y : Fm) (w : World) : (Op.equalIn (d + 5) 29 (.agg #[.int .i64 x.op, .int .i64 x.e.k, .int .i64 x.e.n, .string x.e.nm, .int .i64 x.e.vk, .int .i64 x.e.vn, .string x.e.vs, .string x.a, .bool x.v.ent, .int .i64 x.v.vk, .int .i64 x.v.vn, .string x.v.vs, .int .i64 x.v.e.k, .int .i64 x.v.e.n, .string x.v.e.nm, .int .i64 x.v.e.vk, .int .i64 x.v.e.vn, .string x.v.e.vs, .bool x.old.ent, .int .i64 x.old.vk, .int .i64 x.old.vn, .string x.old.vs, .int .i64 x.old.e.k, .int .i64 x.old.e.n, .string x.old.e.nm, .int .i64 x.old.e.vk, .int .i64 x.old.e.vn, .string x.old.e.vs, .int .i64 x.fr, .int .i64 x.til]) (.agg #[.int .i64 y.op, .int .i64 y.e.k, .int .i64 y.e.n, .string y.e.nm, .int .i64 y.e.vk, .int .i64 y.e.vn, .string y.e.vs, .string y.a, .bool y.v.ent, .int .i64 y.v.vk, .int .i64 y.v.vn, .string y.v.vs, .int .i64 y.v.e.k, .int .i64 y.v.e.n, .string y.v.e.nm, .int .i64 y.v.e.vk, .int .i64 y.v.e.vn, .string y.v.e.vs, .bool y.old.ent, .int .i64 y.old.vk, .int .i64 y.old.vn, .string y.old.vs, .int .i64 y.old.e.k, .int .i64 y.old.e.n, .string y.old.e.nm, .int .i64 y.old.e.vk, .int .i64 y.old.e.vn, .string y.old.e.vs, .int .i64 y.fr, .int .i64 y.til])).run Tryd.prog w = .ok (sameF x y) w := by
  have u3 := Tryd.underlying3
  have u2 := Tryd.underlying2
  have u9 := Tryd.underlying9
  have u4 := Tryd.underlying4
  have a3 := Tryd.isAgg3
  have a2 := Tryd.isAgg2
  have a9 := Tryd.isAgg9
  have a4 := Tryd.isAgg4
  have hSValue : Tryd.prog.underlying 23 = some (.struct (Tryd.prog.fieldsOf 23)) := by kernel_rfl
  have hpValue : Tryd.prog.stoodInHeld 23 = false := by kernel_rfl
  have agValue := Tryd.isAgg23
  have hSEntity : Tryd.prog.underlying 25 = some (.struct (Tryd.prog.fieldsOf 25)) := by kernel_rfl
  have hpEntity : Tryd.prog.stoodInHeld 25 = false := by kernel_rfl
  have agEntity := Tryd.isAgg25
  have hSTerm : Tryd.prog.underlying 27 = some (.struct (Tryd.prog.fieldsOf 27)) := by kernel_rfl
  have hpTerm : Tryd.prog.stoodInHeld 27 = false := by kernel_rfl
  have agTerm := Tryd.isAgg27
  have hSForm : Tryd.prog.underlying 29 = some (.struct (Tryd.prog.fieldsOf 29)) := by kernel_rfl
  have hpForm : Tryd.prog.stoodInHeld 29 = false := by kernel_rfl
  have agForm := Tryd.isAgg29
  have fE := fun w => fldE (d + 1) x.e y.e w
  have fT := fun w => fldT d x.v y.v w
  have fO := fun w => fldT d x.old y.old w
  rw [run_equalIn_agg w (d + 4) 29 _ _ hSForm hpForm]
  simp only [Program.fieldsOf, Tryd.underlying29]
  unfold sameF
  cases h0 : (x.op == y.op)
  · go_simp
  cases h1 : (sameE x.e y.e)
  · go_simp
  cases h2 : (x.a.toList == y.a.toList)
  · go_simp
  cases h3 : (sameT x.v y.v)
  · go_simp
  cases h4 : (sameT x.old y.old)
  · go_simp
  cases h5 : (x.fr == y.fr)
  · go_simp
  cases h6 : (x.til == y.til)
  · go_simp
  go_simp

theorem eqlE (x y : En) (w : World) : (binOp .eql 25 (.agg #[.int .i64 x.k, .int .i64 x.n, .string x.nm, .int .i64 x.vk, .int .i64 x.vn, .string x.vs]) (.agg #[.int .i64 y.k, .int .i64 y.n, .string y.nm, .int .i64 y.vk, .int .i64 y.vn, .string y.vs])).run Tryd.prog w = .ok (.bool (sameE x y)) w := by
  rw [run_eql_struct, show (10000 : Nat) = 9997 + 3 from rfl, fldE]
  rfl

theorem eqlT (x y : Tm) (w : World) : (binOp .eql 27 (.agg #[.bool x.ent, .int .i64 x.vk, .int .i64 x.vn, .string x.vs, .int .i64 x.e.k, .int .i64 x.e.n, .string x.e.nm, .int .i64 x.e.vk, .int .i64 x.e.vn, .string x.e.vs]) (.agg #[.bool y.ent, .int .i64 y.vk, .int .i64 y.vn, .string y.vs, .int .i64 y.e.k, .int .i64 y.e.n, .string y.e.nm, .int .i64 y.e.vk, .int .i64 y.e.vn, .string y.e.vs])).run Tryd.prog w = .ok (.bool (sameT x y)) w := by
  rw [run_eql_struct, show (10000 : Nat) = 9996 + 4 from rfl, fldT]
  rfl

theorem eqlF (x y : Fm) (w : World) : (binOp .eql 29 (.agg #[.int .i64 x.op, .int .i64 x.e.k, .int .i64 x.e.n, .string x.e.nm, .int .i64 x.e.vk, .int .i64 x.e.vn, .string x.e.vs, .string x.a, .bool x.v.ent, .int .i64 x.v.vk, .int .i64 x.v.vn, .string x.v.vs, .int .i64 x.v.e.k, .int .i64 x.v.e.n, .string x.v.e.nm, .int .i64 x.v.e.vk, .int .i64 x.v.e.vn, .string x.v.e.vs, .bool x.old.ent, .int .i64 x.old.vk, .int .i64 x.old.vn, .string x.old.vs, .int .i64 x.old.e.k, .int .i64 x.old.e.n, .string x.old.e.nm, .int .i64 x.old.e.vk, .int .i64 x.old.e.vn, .string x.old.e.vs, .int .i64 x.fr, .int .i64 x.til]) (.agg #[.int .i64 y.op, .int .i64 y.e.k, .int .i64 y.e.n, .string y.e.nm, .int .i64 y.e.vk, .int .i64 y.e.vn, .string y.e.vs, .string y.a, .bool y.v.ent, .int .i64 y.v.vk, .int .i64 y.v.vn, .string y.v.vs, .int .i64 y.v.e.k, .int .i64 y.v.e.n, .string y.v.e.nm, .int .i64 y.v.e.vk, .int .i64 y.v.e.vn, .string y.v.e.vs, .bool y.old.ent, .int .i64 y.old.vk, .int .i64 y.old.vn, .string y.old.vs, .int .i64 y.old.e.k, .int .i64 y.old.e.n, .string y.old.e.nm, .int .i64 y.old.e.vk, .int .i64 y.old.e.vn, .string y.old.e.vs, .int .i64 y.fr, .int .i64 y.til])).run Tryd.prog w = .ok (.bool (sameF x y)) w := by
  rw [run_eql_struct, show (10000 : Nat) = 9995 + 5 from rfl, fldF]
  rfl

theorem eqlV (k n : Int) (s : ByteArray) (k' n' : Int) (s' : ByteArray) (w : World) : (binOp .eql 23 (.agg #[.int .i64 k, .int .i64 n, .string s]) (.agg #[.int .i64 k', .int .i64 n', .string s'])).run Tryd.prog w = .ok (.bool (sameV k n s k' n' s')) w := by
  rw [run_eql_struct, show (10000 : Nat) = 9998 + 2 from rfl, fldV]
  rfl

end Go.Proofs.YtdjdlfndmeegnaaDoor
