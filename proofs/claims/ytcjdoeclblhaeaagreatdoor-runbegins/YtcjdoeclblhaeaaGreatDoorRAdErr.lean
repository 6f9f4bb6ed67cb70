/- -/
import Derived.Test.YtcjdoeclblhaeaaGreatDoorRAdBase
import Derived.LaidEql
import Derived.Stop.Asserts
import Derived.RowKitTokens
import Derived.Lib.IfaceEq
set_option maxHeartbeats 4000000
set_option maxRecDepth 100000
namespace Go.Proofs.YtcjdoeclblhaeaaGreatDoor
open Go.RowKit Go.Extern.Stop Go.Stop Go.Extern
theorem rl_valueOfP (t:Addr) (w:World):(ReflectliteValue.unpack (.iface 68 (.pointer (some t)))).run Tryz.prog w
  = .ok (.agg #[.pointer (some ⟨9,68,none⟩),.pointer (some ⟨w.heap.size,0,none⟩),.int .u64 150]) (w.alloc (.cells #[.pointer (some t)] 68)):=by kernel_rfl
theorem rl_typeP (a:Addr) (w:World):(ReflectliteValue.methodAny (ReflectliteValue.valueError "reflectlite.Value.Type" 0) (fun t _ _ _=>ReflectliteType.toType t) #[.agg #[.pointer (some ⟨9,68,none⟩),.pointer (some a),.int .u64 150]]).run Tryz.prog w
  = .ok (.iface 125 (.agg #[.pointer (some ⟨9,68,none⟩)])) w:=by kernel_rfl
theorem rl_methodKind (h:Value) (w:World):(Go.method 554 125 (.agg #[h]) "Kind").run Tryz.prog w=.ok (366,h) w:=by kernel_rfl
theorem rl_kindP (w:World):((ReflectliteType.abiMethod fun t=>(fun a:Nat=>Value.int IntKind.u8 (a:Int)) <$> Rtype.kind t) #[.pointer (some ⟨9,68,none⟩)]).run Tryz.prog w=.ok (.int .u8 22) w:=by kernel_rfl
theorem rl_kindE (w:World):((ReflectliteType.abiMethod fun t=>(fun a:Nat=>Value.int IntKind.u8 (a:Int)) <$> Rtype.kind t) #[.pointer (some ⟨9,50,none⟩)]).run Tryz.prog w=.ok (.int .u8 2) w:=by kernel_rfl
theorem rlm {z:Sem Value} {f:TypeId->Addr->Nat->Nat->Sem Value} {v:Value} {t:TypeId} {a:Addr} {fl:Nat} {w:World} (hp:(ReflectliteValue.parts v).run Tryz.prog w=.ok (some (t,a,fl)) w) :
  (ReflectliteValue.method z f #[v]).run Tryz.prog w=(f t a fl (fl % 32)).run Tryz.prog w:=by
 show ((ReflectliteValue.parts v) >>= _).run Tryz.prog w=_
 rw[Sem.run_bind,hp]
 rfl
theorem rl_partsP (a:Addr) (w:World):(ReflectliteValue.parts (.agg #[.pointer (some ⟨9,68,none⟩),.pointer (some a),.int .u64 150])).run Tryz.prog w=.ok (some (68,a,150)) w:=by kernel_rfl
theorem rl_isNilP (a p:Addr) (W:World) (ha:W.cell? a=some (.pointer (some p))) :
  (ReflectliteValue.method (ReflectliteValue.valueError "reflectlite.Value.IsNil" 0) ReflectliteValue.isNil #[.agg #[.pointer (some ⟨9,68,none⟩),.pointer (some a),.int .u64 150]]).run Tryz.prog W=.ok (.bool false) W:=by
 rw[rlm (rl_partsP _ _)]
 simp[ReflectliteValue.isNil,loadVar,isAgg,underlying,Tryz.underlying68,ha,Result.andThen]
theorem rl_methodElem (h:Value) (w:World):(Go.method 554 125 (.agg #[h]) "Elem").run Tryz.prog w=.ok (378,.agg #[h]) w:=by kernel_rfl
theorem rl_methodImplements (h:Value) (w:World):(Go.method 554 125 (.agg #[h]) "Implements").run Tryz.prog w=.ok (379,.agg #[h]) w:=by kernel_rfl
theorem rl_methodAssignableTo (h:Value) (w:World):(Go.method 554 125 (.agg #[h]) "AssignableTo").run Tryz.prog w=.ok (376,.agg #[h]) w:=by kernel_rfl
theorem rl_elemP (w:World):(ReflectliteType.method ReflectliteType.elem #[.agg #[.pointer (some ⟨9,68,none⟩)]]).run Tryz.prog w=.ok (.iface 125 (.agg #[.pointer (some ⟨9,50,none⟩)])) w:=by kernel_rfl
theorem rl_implementsE (w:World):(ReflectliteType.relation "Implements" ReflectliteType.implements_ #[.agg #[.pointer (some ⟨9,50,none⟩)],.iface 125 (.agg #[.pointer (some ⟨9,26,none⟩)])]).run Tryz.prog w=.ok (.bool true) w:=by kernel_rfl
theorem rl_typeOfE (v:Value) (w:World):(ReflectliteType.typeOf #[.iface 50 v]).run Tryz.prog w=.ok (.iface 125 (.agg #[.pointer (some ⟨9,50,none⟩)])) w:=by kernel_rfl
theorem rl_assignableE (w:World):(ReflectliteType.relation "AssignableTo" ReflectliteType.assignableTo #[.agg #[.pointer (some ⟨9,50,none⟩)],.iface 125 (.agg #[.pointer (some ⟨9,50,none⟩)])]).run Tryz.prog w=.ok (.bool true) w:=by kernel_rfl
theorem rl_valueOfE (n:Int) (w:World):(ReflectliteValue.unpack (.iface 50 (.int .i64 n))).run Tryz.prog w
  = .ok (.agg #[.pointer (some ⟨9,50,none⟩),.pointer (some ⟨w.heap.size,0,none⟩),.int .u64 130]) (w.alloc (.cells #[.int .i64 n] 50)):=by kernel_rfl
theorem rl_elemOfP (w:World):(Rtype.elem? 68).run Tryz.prog w=.ok (some 50) w:=by kernel_rfl
theorem rl_mkE (p:Addr) (w:World):(ReflectliteValue.mk 50 p ReflectliteValue.flagAddr).run Tryz.prog w=.ok (.agg #[.pointer (some ⟨9,50,none⟩),.pointer (some p),.int .u64 386]) w:=by kernel_rfl
theorem rl_elemVP (a p:Addr) (W:World) (ha:W.cell? a=some (.pointer (some p))) :
  (ReflectliteValue.method (ReflectliteValue.valueError "reflectlite.Value.Elem" 0) ReflectliteValue.elem #[.agg #[.pointer (some ⟨9,68,none⟩),.pointer (some a),.int .u64 150]]).run Tryz.prog W
   = .ok (.agg #[.pointer (some ⟨9,50,none⟩),.pointer (some p),.int .u64 386]) W:=by
 rw[rlm (rl_partsP _ _)]
 simp[ReflectliteValue.elem,loadVar,isAgg,underlying,Tryz.underlying68,ha,Result.andThen,rl_elemOfP,rl_mkE]
theorem rl_partsEa (a:Addr) (w:World):(ReflectliteValue.parts (.agg #[.pointer (some ⟨9,50,none⟩),.pointer (some a),.int .u64 386])).run Tryz.prog w=.ok (some (50,a,386)) w:=by kernel_rfl
theorem rl_partsE (a:Addr) (w:World):(ReflectliteValue.parts (.agg #[.pointer (some ⟨9,50,none⟩),.pointer (some a),.int .u64 130])).run Tryz.prog w=.ok (some (50,a,130)) w:=by kernel_rfl
theorem rl_directE (w:World):(Rtype.directlyAssignable 50 50).run Tryz.prog w=.ok true w:=by kernel_rfl
theorem rl_setE (ta b:Addr) (n:Int) (old:Value) (W:World) (hb:W.cell? b=some (.int .i64 n)) (ht:W.cell? ta=some old) (hf:W.frozen? ta=false) :
  (ReflectliteValue.set #[.agg #[.pointer (some ⟨9,50,none⟩),.pointer (some ta),.int .u64 386],.agg #[.pointer (some ⟨9,50,none⟩),.pointer (some b),.int .u64 130]]).run Tryz.prog W
   = .ok (.tuple #[]) (W.setCell ta (.int .i64 n)):=by
 show ((ReflectliteValue.parts (.agg #[.pointer (some ⟨9,50,none⟩),.pointer (some ta),.int .u64 386])) >>= fun _=>(ReflectliteValue.parts (.agg #[.pointer (some ⟨9,50,none⟩),.pointer (some b),.int .u64 130])) >>= _).run Tryz.prog W=_
 simp only [Sem.run_bind,rl_partsEa,rl_partsE,Result.andThen]
 simp[ReflectliteValue.flagAddr,loadVar,isAgg,underlying,Tryz.underlying50,hb,Result.andThen,rl_directE,storeVar,Value.cells,storeCells,Addr.add]
 rw[run_store Tryz.prog W ta _ _ (by rfl)]
 simp[ht,hf]
abbrev ErrType (w:World):Prop:=w.cell? ⟨1,0,none⟩=some (.iface 125 (.agg #[.pointer (some ⟨9,26,none⟩)]))
theorem as_hit (n:Int) (t:Addr) (old:Value) (w:World) (hg:ErrType w) (ht0:w.cell? t=some old) (hf0:w.frozen? t=false) :
  Calls Tryz.prog 23 #[errN n,.iface 68 (.pointer (some t))] w fun ev w'=>ev=.returned (.bool true)/\w'=((((w.alloc (.cells #[.pointer (some t)] 68)).alloc (.cells #[.pointer (some ⟨9,68,none⟩),.pointer (some ⟨w.heap.size,0,none⟩),.int .u64 150] 84)).alloc (.cells #[.pointer (some ⟨9,68,none⟩),.pointer (some ⟨w.heap.size,0,none⟩),.int .u64 150] 84)).alloc (.cells #[.int .i64 n] 50)).setCell t (.int .i64 n):=by
 have h6:=@run_callFunc_extern Tryz.prog 33 _ (fun args=>ReflectliteValue.unpack (args.getD 0 (.tuple #[]))) Tryz.func33 (by kernel_rfl) (by kernel_rfl) (by kernel_rfl) (by kernel_rfl)
 have h7:=@run_callFunc_extern Tryz.prog 34 _ (ReflectliteValue.methodAny (ReflectliteValue.valueError "reflectlite.Value.Type" 0) (fun t _ _ _=>ReflectliteType.toType t)) Tryz.func34 (by kernel_rfl) (by kernel_rfl) (by kernel_rfl) (by kernel_rfl)
 have h8:=@run_callFunc_extern Tryz.prog 35 _ (ReflectliteValue.method (ReflectliteValue.valueError "reflectlite.Value.IsNil" 0) ReflectliteValue.isNil) Tryz.func35 (by kernel_rfl) (by kernel_rfl) (by kernel_rfl) (by kernel_rfl)
 have h27:=@run_callFunc_extern Tryz.prog 366 _ (ReflectliteType.abiMethod fun t=>do pure (.int .u8 (← Rtype.kind t))) Tryz.func366 (by kernel_rfl) (by kernel_rfl) (by kernel_rfl) (by kernel_rfl)
 have h37:=@run_callFunc_extern Tryz.prog 378 _ (ReflectliteType.method ReflectliteType.elem) Tryz.func378 (by kernel_rfl) (by kernel_rfl) (by kernel_rfl) (by kernel_rfl)
 have h38:=@run_callFunc_extern Tryz.prog 379 _ (ReflectliteType.relation "Implements" ReflectliteType.implements_) Tryz.func379 (by kernel_rfl) (by kernel_rfl) (by kernel_rfl) (by kernel_rfl)
 have h10:=@run_callFunc_extern Tryz.prog 61 _ ReflectliteType.typeOf Tryz.func61 (by kernel_rfl) (by kernel_rfl) (by kernel_rfl) (by kernel_rfl)
 have h35:=@run_callFunc_extern Tryz.prog 376 _ (ReflectliteType.relation "AssignableTo" ReflectliteType.assignableTo) Tryz.func376 (by kernel_rfl) (by kernel_rfl) (by kernel_rfl) (by kernel_rfl)
 have h11:=@run_callFunc_extern Tryz.prog 62 _ (ReflectliteValue.method (ReflectliteValue.valueError "reflectlite.Value.Elem" 0) ReflectliteValue.elem) Tryz.func62 (by kernel_rfl) (by kernel_rfl) (by kernel_rfl) (by kernel_rfl)
 have h12:=@run_callFunc_extern Tryz.prog 63 _ ReflectliteValue.set Tryz.func63 (by kernel_rfl) (by kernel_rfl) (by kernel_rfl) (by kernel_rfl)
 have tO:=rl_typeOfE
 have mA:=rl_methodAssignableTo
 have a25:=rl_assignableE
 have v25:=rl_valueOfE
 have f6:=rl_valueOfP
 have f7:=rl_typeP
 have mK:=rl_methodKind
 have mE:=rl_methodElem
 have mI:=rl_methodImplements
 have k27:=rl_kindP
 have k25:=rl_kindE
 have e27:=rl_elemP
 have i25:=rl_implementsE
 have n8:=rl_isNilP ⟨w.heap.size,0,none⟩ t ((w.alloc (.cells #[.pointer (some t)] 68)).alloc (.cells #[.pointer (some ⟨9,68,none⟩),.pointer (some ⟨w.heap.size,0,none⟩),.int .u64 150] 84)) (by simp)
 have hlt:1<w.heap.size:=World.block_lt_of_cell? _ _ hg
 have hg2:((w.alloc (.cells #[.pointer (some t)] 68)).alloc (.cells #[.pointer (some ⟨9,68,none⟩),.pointer (some ⟨w.heap.size,0,none⟩),.int .u64 150] 84)).cell? ⟨1,0,none⟩=some (.iface 125 (.agg #[.pointer (some ⟨9,26,none⟩)])):=by
  rw[World.cell?_alloc_lt _ _ ⟨1,0,none⟩ (by simp <;> omega),World.cell?_alloc_lt _ _ ⟨1,0,none⟩ hlt];exact hg
 have htl:t.block<w.heap.size:=World.block_lt_of_cell? _ _ ht0
 have el:=rl_elemVP ⟨w.heap.size,0,none⟩ t (((w.alloc (.cells #[.pointer (some t)] 68)).alloc (.cells #[.pointer (some ⟨9,68,none⟩),.pointer (some ⟨w.heap.size,0,none⟩),.int .u64 150] 84)).alloc (.cells #[.pointer (some ⟨9,68,none⟩),.pointer (some ⟨w.heap.size,0,none⟩),.int .u64 150] 84)) (by rw[World.cell?_alloc_lt _ _ ⟨w.heap.size,0,none⟩ (by simp;omega)];simp)
 have st:=rl_setE t ⟨w.heap.size+1+1+1,0,none⟩ n old ((((w.alloc (.cells #[.pointer (some t)] 68)).alloc (.cells #[.pointer (some ⟨9,68,none⟩),.pointer (some ⟨w.heap.size,0,none⟩),.int .u64 150] 84)).alloc (.cells #[.pointer (some ⟨9,68,none⟩),.pointer (some ⟨w.heap.size,0,none⟩),.int .u64 150] 84)).alloc (.cells #[.int .i64 n] 50))
  (by rw[World.cell?_alloc_at _ _ _ _ (by simp)];rfl)
  (by rw[World.cell?_alloc_lt _ _ t (by simp;omega),World.cell?_alloc_lt _ _ t (by simp;omega),World.cell?_alloc_lt _ _ t (by simp;omega),World.cell?_alloc_lt _ _ t htl];exact ht0)
  (by rw[World.frozen?_alloc_old _ _ t (by simp;omega),World.frozen?_alloc_old _ _ t (by simp;omega),World.frozen?_alloc_old _ _ t (by simp;omega),World.frozen?_alloc_old _ _ t (Nat.ne_of_lt htl)];exact hf0)
 go_enter Tryz.func23,Tryz.ntmps23
 go_wp2
 refine wp_loop_rounds 1 ?_
 rw[rounds_succ]
 go_wp2
 go_ret
 exact⟨rfl,rfl⟩
end Go.Proofs.YtcjdoeclblhaeaaGreatDoor
namespace Go.Proofs.YtcjdoeclblhaeaaGreatDoor
open Go.RowKit Go.Extern.Stop Go.Stop Go.Extern
theorem told_hit (n:Int) (w:World) (hg:ErrType w):Calls Tryz.prog 15 #[errN n] w fun e w'=>e=.returned (.int .i64 n)/\Below w.heap.size w w':=by
 have hlt:1<w.heap.size:=World.block_lt_of_cell? _ _ hg
 have hgA:ErrType (w.alloc (.cells #[.int .i64 0] 50)):=by
  show World.cell? _ _=_
  rw[World.cell?_alloc_lt _ _ ⟨1,0,none⟩ hlt];exact hg
 have htA:(w.alloc (.cells #[.int .i64 0] 50)).cell? ⟨w.heap.size,0,none⟩=some (.int .i64 0):=by simp
 have hfA:(w.alloc (.cells #[.int .i64 0] 50)).frozen? ⟨w.heap.size,0,none⟩=false:=by simp
 go_enter Tryz.func15,Tryz.ntmps15
 go_wp2_with (go_at_call 23;refine (as_hit n _ (.int .i64 0) _ hgA htA hfA).mono ?_;rintro e w' ⟨rfl,rfl⟩)
 go_ret
 refine⟨rfl,?_⟩
 exact (((((Below.refl _ _).alloc (Nat.le_refl _) _).alloc (by simp) _).alloc (by simp;omega) _).alloc (by simp;omega) _).alloc (by simp;omega) _
end Go.Proofs.YtcjdoeclblhaeaaGreatDoor
namespace Go.Proofs.YtcjdoeclblhaeaaGreatDoor
open Go.RowKit Go.Extern.Stop Go.Stop Go.Extern
theorem isTypeOf (v:Value) (w:World):(Extern.ReflectliteType.typeOf #[.iface 50 v]).run Tryz.prog w=.ok (.iface 125 (.agg #[.pointer (some ⟨9,50,none⟩)])) w:=by kernel_rfl
theorem isComparable (w:World):((Extern.ReflectliteType.method fun t=>do Extern.Rtype.noPackHeld "Comparable" t;(fun a=>Value.bool a.comparable) <$> typeInfo t) #[.agg #[.pointer (some ⟨9,50,none⟩)]]).run Tryz.prog w=.ok (.bool true) w:=by kernel_rfl
theorem isMethodComparable (v:Value) (w:World):(Go.method 554 125 v "Comparable").run Tryz.prog w=.ok (377,v) w:=by kernel_rfl
theorem isComp:(Tryz.prog.info? 50).map (·.comparable)=some true:=by kernel_rfl
theorem noIsE (v:Value) (xT:TypeId) (w:World):(Instr.typeAssert (.iface 50 v) xT 366 true).run Tryz.prog w=.ok (.tuple #[.nilIface,.bool false]) w:=run_typeAssert_lacksB Tryz.underlying366 (by kernel_rfl) (by kernel_rfl) v xT w
theorem noUnwrapE (v:Value) (xT:TypeId) (w:World):(Instr.typeAssert (.iface 50 v) xT 133 true).run Tryz.prog w=.ok (.tuple #[.nilIface,.bool false]) w:=run_typeAssert_lacksB Tryz.underlying133 (by kernel_rfl) (by kernel_rfl) v xT w
theorem noUnwrapsE (v:Value) (xT:TypeId) (w:World):(Instr.typeAssert (.iface 50 v) xT 134 true).run Tryz.prog w=.ok (.tuple #[.nilIface,.bool false]) w:=run_typeAssert_lacksB Tryz.underlying134 (by kernel_rfl) (by kernel_rfl) v xT w
theorem is_num (n m:Int) (w:World):Calls Tryz.prog 203 #[errN n,errN m] w fun e w'=>e=.returned (.bool (n==m))/\w'=w:=by
 have h8:=@run_callFunc_extern Tryz.prog 61 _ Extern.ReflectliteType.typeOf Tryz.func61 (by kernel_rfl) (by kernel_rfl) (by kernel_rfl) (by kernel_rfl)
 have h32:=@run_callFunc_extern Tryz.prog 377 _ (Extern.ReflectliteType.method fun t=>do Extern.Rtype.noPackHeld "Comparable" t;pure (.bool (← typeInfo t).comparable)) Tryz.func377 (by kernel_rfl) (by kernel_rfl) (by kernel_rfl) (by kernel_rfl)
 have tT:=isTypeOf
 have cT:=isComparable
 have mR:=isMethodComparable
 have nE:=noIsE
 have uE:=noUnwrapE
 have vE:=noUnwrapsE
 have heq:=Lib.run_eql_iface_int (P:=Tryz.prog) (k:=.i64) w n m Tryz.underlying26 isComp Tryz.underlying50
 cases h:(n==m)
 ·rw[h] at heq
  go_enter Tryz.func203,Tryz.ntmps203
  go_wp2
  refine wp_loop_rounds 1 ?_
  rw[rounds_succ]
  go_wp2
  go_ret
  exact⟨rfl,rfl⟩
 ·rw[h] at heq
  go_enter Tryz.func203,Tryz.ntmps203
  go_wp2
  refine wp_loop_rounds 1 ?_
  rw[rounds_succ]
  go_wp2
  go_ret
  exact⟨rfl,rfl⟩
theorem is_none (m:Int) (w:World):Calls Tryz.prog 203 #[.nilIface,errN m] w fun e w'=>e=.returned (.bool false)/\w'=w:=by
 have hn:=run_eql_iface_nil_left (P:=Tryz.prog) w 50 (.int .i64 m) Tryz.underlying26
 go_enter Tryz.func203,Tryz.ntmps203
 go_wp2
 go_ret
 exact⟨rfl,rfl⟩
theorem is_any (n m:Int) (hm:m≠0) (w:World):Calls Tryz.prog 203 #[ev n,errN m] w fun e w'=>e=.returned (.bool (n==m))/\w'=w:=by
 by_cases h:n=0
 ·subst h
  rw[ev_0,show ((0:Int)==m)=false from by simpa using fun q=>hm q.symm]
  exact is_none m w
 ·rw[ev_ne h]
  exact is_num n m w
end Go.Proofs.YtcjdoeclblhaeaaGreatDoor
