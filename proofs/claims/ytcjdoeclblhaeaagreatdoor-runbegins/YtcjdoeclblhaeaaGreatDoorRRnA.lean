/- -/
import Derived.Test.YtcjdoeclblhaeaaGreatDoorRRnSpl
import Derived.Test.YtcjdoeclblhaeaaGreatDoorRAdBase
import Derived.Recover
import Derived.Test.YtcjdoeclblhaeaaGreatDoorRAdCutMath
namespace Go.Proofs.YtcjdoeclblhaeaaGreatDoor.Rn
open Go.RowKit
def thr (f:Int):Value:=if f=0 then .iface 47 (.agg #[]) else .iface 49 (.agg #[errN f])
theorem thr_0:thr 0=.iface 47 (.agg #[]):=rfl
theorem thr_ne {f:Int} (h:f≠0):thr f=.iface 49 (.agg #[errN f]):=if_neg h
abbrev thC (f:Int):List PanicEntry:=[{ v:=thr f,recovered:=false }]
def enR:Rw Value->Ending
 | .ok v=>.returned v
 | .error f=>.panicked (thC f)
theorem mustS_ok (s:ByteArray) (w:World):Calls Tryz.prog 37 #[.string s,.nilIface] w fun e w'=>e=.returned (.string s)/\w'=w:=by
 go_enter Tryz.func37,Tryz.ntmps37
 go_wp2
 go_ret
 exact⟨rfl,rfl⟩
theorem mustS_no (s:ByteArray) (f:Int) (hf:f≠0) (w:World):Calls Tryz.prog 37 #[.string s,errN f] w fun e w'=>e=.panicked (thC f)/\w'=w:=by
 unfold thC
 rw[thr_ne hf]
 go_enter Tryz.func37,Tryz.ntmps37
 go_wp2
 exact⟨rfl,rfl,rfl⟩
theorem mustI_ok (n:Int) (w:World):Calls Tryz.prog 45 #[.int .i64 n,.nilIface] w fun e w'=>e=.returned (.int .i64 n)/\w'=w:=by
 go_enter Tryz.func45,Tryz.ntmps45
 go_wp2
 go_ret
 exact⟨rfl,rfl⟩
theorem mustI_no (n:Int) (f:Int) (hf:f≠0) (w:World):Calls Tryz.prog 45 #[.int .i64 n,errN f] w fun e w'=>e=.panicked (thC f)/\w'=w:=by
 unfold thC
 rw[thr_ne hf]
 go_enter Tryz.func45,Tryz.ntmps45
 go_wp2
 exact⟨rfl,rfl,rfl⟩
theorem mustP_ok (a l:Int) (w:World):Calls Tryz.prog 113 #[pfx a l,.nilIface] w fun e w'=>e=.returned (pfx a l)/\Below w.heap.size w w':=by
 have cP:=(Pf.new w a l).alloc (pcs 0 0)
 have cQ:=Pf.new (w.alloc (pcs a l)) 0 0
 obtain⟨p0,p1,p2,p3,p4⟩:=cP
 obtain⟨q0,q1,q2,q3,q4⟩:=cQ
 go_enter Tryz.func113,Tryz.ntmps113
 go_wp2
 exact bodyPost_ret (v:=pfx a l) (by simp[results,Tryz.results113,go_sem]) rfl ⟨rfl,below_al (below_al (below_self w) _) _⟩
theorem mustP_no (a l:Int) (f:Int) (hf:f≠0) (w:World):Calls Tryz.prog 113 #[pfx a l,errN f] w fun e w'=>e=.panicked (thC f)/\Below w.heap.size w w':=by
 unfold thC
 rw[thr_ne hf]
 go_enter Tryz.func113,Tryz.ntmps113
 go_wp2
 exact⟨rfl,rfl,below_al (below_al (below_self w) _) _⟩
theorem mustA_ok (a b c:Int) (o:ByteArray) (p:Option Addr) (n cap:Nat) (w:World):Calls Tryz.prog 51 #[.agg #[.int .i64 a,.int .i64 b,.int .i64 c,.string o,.slice p n cap],.nilIface] w fun e w'=>e=.returned (.agg #[.int .i64 a,.int .i64 b,.int .i64 c,.string o,.slice p n cap])/\Below w.heap.size w w':=by
 go_enter Tryz.func51,Tryz.ntmps51
 go_wp2
 exact bodyPost_ret (v:=.agg #[.int .i64 a,.int .i64 b,.int .i64 c,.string o,.slice p n cap]) (by simp[results,Tryz.results51,go_sem]) rfl ⟨rfl,below_al (below_al (below_self w) _) _⟩
theorem mustA_no (a b c:Int) (o:ByteArray) (p:Option Addr) (n cap:Nat) (f:Int) (hf:f≠0) (w:World):Calls Tryz.prog 51 #[.agg #[.int .i64 a,.int .i64 b,.int .i64 c,.string o,.slice p n cap],errN f] w fun e w'=>e=.panicked (thC f)/\Below w.heap.size w w':=by
 unfold thC
 rw[thr_ne hf]
 go_enter Tryz.func51,Tryz.ntmps51
 go_wp2
 exact⟨rfl,rfl,below_al (below_al (below_self w) _) _⟩
end Go.Proofs.YtcjdoeclblhaeaaGreatDoor.Rn
namespace Go.Proofs.YtcjdoeclblhaeaaGreatDoor.Pa
open Go.RowKit Vs
abbrev clA (c:Cl):Array Value:=#[.int .i64 c.what,.string c.nm,.int .i64 c.p.1,.int .i64 c.p.2,.int .i64 c.len,.int .i64 c.ad,.string c.ow]
abbrev clV (c:Cl):Value:=.agg (clA c)
end Go.Proofs.YtcjdoeclblhaeaaGreatDoor.Pa
