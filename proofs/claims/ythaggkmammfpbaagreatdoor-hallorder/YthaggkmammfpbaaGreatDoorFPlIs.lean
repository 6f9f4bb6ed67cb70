/- -/
import Derived.Test.YthaggkmammfpbaaGreatDoorFAdBase
import Derived.Lib.IfaceEq
import Derived.LaidEql
import Derived.Stop.Asserts
import Derived.RowKitTokens
set_option maxRecDepth 100000
namespace Go.Proofs.YthaggkmammfpbaaGreatDoor
open Go.RowKit Go.Extern.Stop Go.Stop Go.Extern
theorem isTypeOf (v : Value) (w : World) : (Extern.ReflectliteType.typeOf #[.iface 36 v]).run Tryz.prog w = .ok (.iface 340 (.agg #[.pointer (some ⟨5,36,none⟩)])) w := by kernel_rfl
theorem isComparable (w : World) : ((Extern.ReflectliteType.method fun t => do Extern.Rtype.noPackHeld "Comparable" t; (fun a => Value.bool a.comparable) <$> typeInfo t) #[.agg #[.pointer (some ⟨5,36,none⟩)]]).run Tryz.prog w = .ok (.bool true) w := by kernel_rfl
theorem isMethodComparable (v : Value) (w : World) : (Go.method 612 340 v "Comparable").run Tryz.prog w = .ok (413,v) w := by kernel_rfl
theorem isComp : (Tryz.prog.info? 36).map (·.comparable) = some true := by kernel_rfl
theorem noIsE (v : Value) (xT : TypeId) (w : World) : (Instr.typeAssert (.iface 36 v) xT 406 true).run Tryz.prog w = .ok (.tuple #[.nilIface,.bool false]) w := run_typeAssert_lacksB Tryz.underlying406 (by kernel_rfl) (by kernel_rfl) v xT w
theorem noUnwrapE (v : Value) (xT : TypeId) (w : World) : (Instr.typeAssert (.iface 36 v) xT 348 true).run Tryz.prog w = .ok (.tuple #[.nilIface,.bool false]) w := run_typeAssert_lacksB Tryz.underlying348 (by kernel_rfl) (by kernel_rfl) v xT w
theorem noUnwrapsE (v : Value) (xT : TypeId) (w : World) : (Instr.typeAssert (.iface 36 v) xT 349 true).run Tryz.prog w = .ok (.tuple #[.nilIface,.bool false]) w := run_typeAssert_lacksB Tryz.underlying349 (by kernel_rfl) (by kernel_rfl) v xT w
theorem is_num (n m : Int) (w : World) : Calls Tryz.prog 192 #[errN n,errN m] w fun e w' => e = .returned (.bool (n == m)) /\ w' = w := by
 have h8 := @run_callFunc_extern Tryz.prog 229 _ Extern.ReflectliteType.typeOf Tryz.func229 (by kernel_rfl) (by kernel_rfl) (by kernel_rfl) (by kernel_rfl)
 have h32 := @run_callFunc_extern Tryz.prog 413 _ (Extern.ReflectliteType.method fun t => do Extern.Rtype.noPackHeld "Comparable" t; pure (.bool (← typeInfo t).comparable)) Tryz.func413 (by kernel_rfl) (by kernel_rfl) (by kernel_rfl) (by kernel_rfl)
 have tT := isTypeOf
 have cT := isComparable
 have mR := isMethodComparable
 have nE := noIsE
 have uE := noUnwrapE
 have vE := noUnwrapsE
 have heq := Lib.run_eql_iface_int (P := Tryz.prog) (k := .i64) w n m Tryz.underlying25 isComp Tryz.underlying36
 cases h : (n == m)
 ·rw [h] at heq
  go_enter Tryz.func192,Tryz.ntmps192
  go_wp2
  refine wp_loop_rounds 1 ?_
  rw [rounds_succ]
  go_wp2
  go_ret
  exact ⟨rfl,rfl⟩
 ·rw [h] at heq
  go_enter Tryz.func192,Tryz.ntmps192
  go_wp2
  refine wp_loop_rounds 1 ?_
  rw [rounds_succ]
  go_wp2
  go_ret
  exact ⟨rfl,rfl⟩
theorem is_none (m : Int) (w : World) : Calls Tryz.prog 192 #[.nilIface,errN m] w fun e w' => e = .returned (.bool false) /\ w' = w := by
 have hn := run_eql_iface_nil_left (P := Tryz.prog) w 36 (.int .i64 m) Tryz.underlying25
 go_enter Tryz.func192,Tryz.ntmps192
 go_wp2
 go_ret
 exact ⟨rfl,rfl⟩
theorem is_any (n m : Int) (hm : m ≠ 0) (w : World) : Calls Tryz.prog 192 #[ev n,errN m] w fun e w' => e = .returned (.bool (n == m)) /\ w' = w := by
 by_cases h : n = 0
 ·subst h
  rw [ev_0,show ((0 : Int) == m) = false from by simpa using fun q => hm q.symm]
  exact is_none m w
 ·rw [ev_ne h]
  exact is_num n m w
end Go.Proofs.YthaggkmammfpbaaGreatDoor
