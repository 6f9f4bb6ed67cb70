/- -/
import Derived.Test.YtmghmpclmphccaaGreatDoorGAdBase
import Derived.Lib.IfaceEq
import Derived.Stop.Asserts
import Derived.RowKitTokens
set_option maxRecDepth 100000
namespace Go.Proofs.YtmghmpclmphccaaGreatDoor
open Go.RowKit Go.Extern.Stop Go.Stop Go.Extern
theorem isTypeOf (v:Value)(w:World):(Extern.ReflectliteType.typeOf #[.iface 77 v]).run Tryz.prog w=.ok (.iface 321 (.agg #[.pointer (some ⟨4,77,none⟩)])) w:=by kernel_rfl
theorem isComparable (w:World):((Extern.ReflectliteType.method fun t=>do Extern.Rtype.noPackHeld "Comparable" t;(fun a=>Value.bool a.comparable) <$> typeInfo t) #[.agg #[.pointer (some ⟨4,77,none⟩)]]).run Tryz.prog w=.ok (.bool true) w:=by kernel_rfl
theorem isMethodComparable (v:Value)(w:World):(Go.method 527 321 v "Comparable").run Tryz.prog w=.ok (340,v) w:=by kernel_rfl
theorem isComp:(Tryz.prog.info? 77).map (·.comparable)=some true:=by kernel_rfl
theorem noIsE (v:Value)(xT:TypeId)(w:World):(Instr.typeAssert (.iface 77 v) xT 323 true).run Tryz.prog w=.ok (.tuple #[.nilIface,.bool false]) w:=run_typeAssert_lacksB Tryz.underlying323 (by kernel_rfl) (by kernel_rfl) v xT w
theorem noUnwrapE (v:Value)(xT:TypeId)(w:World):(Instr.typeAssert (.iface 77 v) xT 326 true).run Tryz.prog w=.ok (.tuple #[.nilIface,.bool false]) w:=run_typeAssert_lacksB Tryz.underlying326 (by kernel_rfl) (by kernel_rfl) v xT w
theorem noUnwrapsE (v:Value)(xT:TypeId)(w:World):(Instr.typeAssert (.iface 77 v) xT 327 true).run Tryz.prog w=.ok (.tuple #[.nilIface,.bool false]) w:=run_typeAssert_lacksB Tryz.underlying327 (by kernel_rfl) (by kernel_rfl) v xT w
theorem afU (n m:Int)(w:World):Calls Tryz.prog 141 #[aC n,aC m] w fun e w'=>e=.returned (.bool (n==m))/\w'=w:=by
 have h8:=@run_callFunc_extern Tryz.prog 186 _ Extern.ReflectliteType.typeOf Tryz.func186 (by kernel_rfl) (by kernel_rfl) (by kernel_rfl) (by kernel_rfl)
 have h32:=@run_callFunc_extern Tryz.prog 340 _ (Extern.ReflectliteType.method fun t=>do Extern.Rtype.noPackHeld "Comparable" t;pure (.bool (← typeInfo t).comparable)) Tryz.func340 (by kernel_rfl) (by kernel_rfl) (by kernel_rfl) (by kernel_rfl)
 have tT:=isTypeOf
 have cT:=isComparable
 have mR:=isMethodComparable
 have nE:=noIsE
 have uE:=noUnwrapE
 have vE:=noUnwrapsE
 have heq:=Lib.run_eql_iface_int (P:=Tryz.prog) (k:=.i64) w n m Tryz.underlying26 isComp Tryz.underlying77
 cases h:(n==m)
 ·rw[h] at heq
  go_enter Tryz.func141,Tryz.ntmps141
  go_wp2
  refine wp_loop_rounds 1 ?_
  rw[rounds_succ]
  go_wp2
  go_ret
  exact⟨rfl,rfl⟩
 ·rw[h] at heq
  go_enter Tryz.func141,Tryz.ntmps141
  go_wp2
  refine wp_loop_rounds 1 ?_
  rw[rounds_succ]
  go_wp2
  go_ret
  exact⟨rfl,rfl⟩
theorem ac3 (m:Int)(w:World):Calls Tryz.prog 141 #[.nilIface,aC m] w fun e w'=>e=.returned (.bool false)/\w'=w:=by
 have hn:=run_eql_iface_nil_left (P:=Tryz.prog) w 77 (.int .i64 m) Tryz.underlying26
 go_enter Tryz.func141,Tryz.ntmps141
 go_wp2
 go_ret
 exact⟨rfl,rfl⟩
theorem aew (n m:Int)(hm:m≠0)(w:World):Calls Tryz.prog 141 #[ev n,aC m] w fun e w'=>e=.returned (.bool (n==m))/\w'=w:=by
 by_cases h:n=0
 ·subst h
  rw[aB,show ((0:Int)==m)=false from by simpa using fun q=>hm q.symm]
  exact ac3 m w
 ·rw[ay h]
  exact afU n m w
