/- -/
import Derived.Test.YtcjdoeclblhaeaaGreatDoorRRnA
import Derived.Test.YtcjdoeclblhaeaaGreatDoorRAdBase
import Derived.Test.YtcjdoeclblhaeaaGreatDoorRAdErr
import Derived.Defers
import Derived.Recover
import Derived.Stop.Asserts
set_option maxHeartbeats 4000000
set_option maxRecDepth 30000
namespace Go.Proofs.YtcjdoeclblhaeaaGreatDoor.Rn
open Go.RowKit
theorem errText (f:Int) (w:World):Calls Tryz.prog 16 #[.int .i64 f] w fun e w'=>e=.returned (.string ⟨(errT f).toArray⟩)/\w'=w:=by
 unfold errT
 by_cases h0:f=0
 ·subst h0
  go_enter Tryz.func16,Tryz.ntmps16
  go_wp2
  go_ret
  exact⟨rfl,rfl⟩
 by_cases h1:f=1
 ·subst h1
  go_enter Tryz.func16,Tryz.ntmps16
  go_wp2
  go_ret
  exact⟨rfl,rfl⟩
 by_cases h2:f=2
 ·subst h2
  go_enter Tryz.func16,Tryz.ntmps16
  go_wp2
  go_ret
  exact⟨rfl,rfl⟩
 by_cases h3:f=3
 ·subst h3
  go_enter Tryz.func16,Tryz.ntmps16
  go_wp2
  go_ret
  exact⟨rfl,rfl⟩
 by_cases h4:f=4
 ·subst h4
  go_enter Tryz.func16,Tryz.ntmps16
  go_wp2
  go_ret
  exact⟨rfl,rfl⟩
 by_cases h5:f=5
 ·subst h5
  go_enter Tryz.func16,Tryz.ntmps16
  go_wp2
  go_ret
  exact⟨rfl,rfl⟩
 by_cases h6:f=6
 ·subst h6
  go_enter Tryz.func16,Tryz.ntmps16
  go_wp2
  go_ret
  exact⟨rfl,rfl⟩
 by_cases h7:f=7
 ·subst h7
  go_enter Tryz.func16,Tryz.ntmps16
  go_wp2
  go_ret
  exact⟨rfl,rfl⟩
 by_cases h8:f=8
 ·subst h8
  go_enter Tryz.func16,Tryz.ntmps16
  go_wp2
  go_ret
  exact⟨rfl,rfl⟩
 rw[if_neg h0,if_neg h1,if_neg h2,if_neg h3,if_neg h4,if_neg h5,if_neg h6,if_neg h7,if_neg h8]
 go_enter Tryz.func16,Tryz.ntmps16
 go_wp2
 go_ret
 exact⟨rfl,rfl⟩
theorem asU (x:TypeId) (w:World):(Instr.typeAssert (.iface 47 (.agg #[])) x 47 true).run Tryz.prog w=.ok (.tuple #[.agg #[],.bool true]) w:=by
 simp[Instr.typeAssert,run_underlying Tryz.underlying47]
theorem asW (v:Value) (x:TypeId) (w:World):(Instr.typeAssert (.iface 49 v) x 49 true).run Tryz.prog w=.ok (.tuple #[v,.bool true]) w:=by
 simp[Instr.typeAssert,run_underlying Tryz.underlying49]
theorem asN (v:Value) (x:TypeId) (w:World):(Instr.typeAssert (.iface 49 v) x 47 true).run Tryz.prog w=.ok (.tuple #[.agg #[],.bool false]) w:=by
 have hz:(zeroValue 47).run Tryz.prog w=.ok (.agg #[]) w:=by kernel_rfl
 simp[Instr.typeAssert,run_underlying Tryz.underlying47,hz]
theorem cat_idle (p:Addr) (w:World) :
  CallsD Tryz.prog 14 #[.pointer (some p)] .returning w fun e u' w'=>e=.returned (.tuple #[])/\u'=.returning/\w'=w:=by
 refine callsD_of_wpS Tryz.func14 rfl fun c₀ cs hu=>?_
 apply wpS_seq
 apply wpS_region
 simp[wpOpsS,go_sem,recoverD,hu,Tryz.ntmps14,Exit.thenS]
 rw[show (#[Value.pointer (some p)]++(Array.replicate 17 undef).setIfInBounds 4 Value.nilIface)=#[.pointer (some p),undef,undef,undef,undef,.nilIface,undef,undef,undef,undef,undef,undef,undef,undef,undef,undef,undef,undef] from rfl]
 refine wpS_of_wp ?_
 go_wp2
 cases c₀
 simp_all [bodyPostS,results,Tryz.results14]
theorem told_set {w:World} {tb:Nat} {v0:Value} (h:w.cell? ⟨tb,0,none⟩=some v0) (v:Value):(w.setCell ⟨tb,0,none⟩ v).cell? ⟨tb,0,none⟩=some v:=World.cell?_setCell_same _ _ _ h
theorem cat_bad (tb:Nat) (v0:Value) (w:World) (hp:w.cell? ⟨tb,0,none⟩=some v0) (zp:w.frozen? ⟨tb,0,none⟩=false) :
  CallsD Tryz.prog 14 #[.pointer (some ⟨tb,0,none⟩)] (.panicking (thC 0)) w fun e u' w'=>e=.returned (.tuple #[])/\u'=.panicking [{ v:=thr 0,recovered:=true }]/\w'.cell? ⟨tb,0,none⟩=some (.string ⟨badT.toArray⟩)/\But (fun k=>k=tb) w w':=by
 have hl:=World.block_lt_of_cell? _ _ hp
 unfold thC
 rw[thr_0]
 obtain⟨p,hpp⟩:∃ p:Addr,p=⟨tb,0,none⟩:=⟨_,rfl⟩
 rw[<- hpp]
 refine callsD_of_wpS Tryz.func14 rfl fun c₀ cs hu=>?_
 apply wpS_seq
 apply wpS_region
 simp[wpOpsS,go_sem,recoverD,hu,Tryz.ntmps14,Exit.thenS]
 rw[show (#[Value.pointer (some p)]++(Array.replicate 17 undef).setIfInBounds 4 (Value.iface 47 (.agg #[])))=#[.pointer (some p),undef,undef,undef,undef,(.iface 47 (.agg #[])),undef,undef,undef,undef,undef,undef,undef,undef,undef,undef,undef,undef] from rfl]
 refine wpS_of_wp ?_
 subst hpp
 have hta:=fun (x:TypeId) (W:World)=>asU x W
 go_wp2
 have b1:=told_set hp (.string ⟨badT.toArray⟩)
 have hB:=below_al (below_self (w.setCell ⟨tb,0,none⟩ (.string ⟨badT.toArray⟩))) (.cells #[] 47)
 cases c₀
 refine⟨rfl,_,rfl,_,by simp[results,Tryz.results14],rfl,rfl,?_,?_⟩
 ·exact (hB.cell (p:=⟨tb,0,none⟩) (by simpa [World.setCell] using hl)).trans b1
 ·exact ((But.refl (fun k=>k=tb) w).setCell (p:=⟨tb,0,none⟩) (.inl rfl) _).alloc _
theorem cat_err (tb:Nat) (v0:Value) (f:Int) (hf:f≠0) (w:World) (et:ErrType w) (hp:w.cell? ⟨tb,0,none⟩=some v0) (zp:w.frozen? ⟨tb,0,none⟩=false) :
  CallsD Tryz.prog 14 #[.pointer (some ⟨tb,0,none⟩)] (.panicking (thC f)) w fun e u' w'=>e=.returned (.tuple #[])/\u'=.panicking [{ v:=thr f,recovered:=true }]/\w'.cell? ⟨tb,0,none⟩=some (.string ⟨(errT f).toArray⟩)/\But (fun k=>k=tb) w w':=by
 have hl:=World.block_lt_of_cell? _ _ hp
 have KT:=fun W hW=>told_hit f W hW
 have KE:=fun W=>errText f W
 unfold thC
 rw[thr_ne hf]
 generalize errT f=z at *
 clear hf
 have bA:=below_al (below_self w) (.cells #[errN f] 49)
 have eA:ErrType (w.alloc (.cells #[errN f] 49)):=(bA.cell (p:=⟨1,0,none⟩) (World.block_lt_of_cell? _ _ et)).trans et
 obtain⟨p,hpp⟩:∃ p:Addr,p=⟨tb,0,none⟩:=⟨_,rfl⟩
 rw[<- hpp]
 refine callsD_of_wpS Tryz.func14 rfl fun c₀ cs hu=>?_
 apply wpS_seq
 apply wpS_region
 simp[wpOpsS,go_sem,recoverD,hu,Tryz.ntmps14,Exit.thenS]
 rw[show (#[Value.pointer (some p)]++(Array.replicate 17 undef).setIfInBounds 4 (Value.iface 49 (.agg #[errN f])))=#[.pointer (some p),undef,undef,undef,undef,(.iface 49 (.agg #[errN f])),undef,undef,undef,undef,undef,undef,undef,undef,undef,undef,undef,undef] from rfl]
 refine wpS_of_wp ?_
 subst hpp
 have hta:=fun (x:TypeId) (W:World)=>asN (.agg #[errN f]) x W
 have htb:=fun (x:TypeId) (W:World)=>asW (.agg #[errN f]) x W
 go_wp2_with (first
  | (go_at_call 15;refine (KT _ eA).mono ?_;clear KT;rintro e w1 ⟨rfl,hb1⟩;have cT:=(below_via bA hb1).cell (p:=⟨tb,0,none⟩) hl;rw[hp] at cT;have zT:=(below_via bA hb1).frozen (p:=⟨tb,0,none⟩) hl;rw[zp] at zT)
  | (go_at_call 16;refine (KE _).mono ?_;clear KE;rintro e w2 ⟨rfl,hw2⟩;have:=hw2.symm;subst this))
 cases c₀
 refine⟨rfl,_,rfl,_,by simp[results,Tryz.results14],rfl,rfl,told_set cT _,?_⟩
 exact (But.below (F:=fun k=>k=tb) (below_via bA hb1)).setCell (p:=⟨tb,0,none⟩) (.inl rfl) _
end Go.Proofs.YtcjdoeclblhaeaaGreatDoor.Rn
