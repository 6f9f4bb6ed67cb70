/- -/
import Derived.Test.YtcjdoeclblhaeaaGreatDoorProg
import Derived.Test.YtcjdoeclblhaeaaGreatDoorRAdMath
import Derived.WalkKit
import Derived.WalkSpells
import Derived.StillTactics
import Derived.Laws.Pointers
import Derived.Deep.QuietTactic
import Derived.BigQuiet
import Derived.Deep.RegionHeld3
import Derived.Deep.RegionWith
import Derived.RowKit3
import Derived.WalkSmall
import Derived.Deep.DeepCutAuto
namespace Go.Proofs.YtcjdoeclblhaeaaGreatDoor
open Go.RowKit
theorem ret_bool {a b:Bool} (h:a=b):Ending.returned (.bool a)=.returned (.bool b):=by rw[h]
theorem ret_int {k:IntKind} {a b:Int} (h:a=b):Ending.returned (.int k a)=.returned (.int k b):=by rw[h]
theorem bcell {W w1:World} (hb:Below W.heap.size W w1):(∀ b o,b<W.heap.size->w1.cell? ⟨b,o,none⟩=W.cell? ⟨b,o,none⟩)/\(∀ b o,b<W.heap.size->w1.frozen? ⟨b,o,none⟩=W.frozen? ⟨b,o,none⟩):=
 ⟨fun b o h=>hb.cell (p:=⟨b,o,none⟩) h,fun b o h=>hb.frozen (p:=⟨b,o,none⟩) h⟩
theorem isAddress (a:Int) (w:World):Calls Tryz.prog 87 #[.int .i64 a] w fun e w'=>e=.returned (.bool (Bur.isA a))/\w'=w:=by
 go_enter Tryz.func87,Tryz.ntmps87
 go_wp2
 all_goals (go_ret;refine⟨ret_bool ?_,rfl⟩;simp[Bur.isA];try omega)
abbrev errN (n:Int):Value:=.iface 50 (.int .i64 n)
abbrev pfx (a l:Int):Value:=.agg #[.int .i64 a,.int .i64 l]
theorem below_via {w v w':World} (h:Below w.heap.size w v) (hb:Below v.heap.size v w'):Below w.heap.size w w':=h.trans (hb.mono h.size)
theorem below_al {w v:World} (h:Below w.heap.size w v) (o:Obj):Below w.heap.size w (v.alloc o):=h.alloc h.size o
theorem below_self (w:World):Below w.heap.size w w:=Below.refl _ _
def Box1 (w:World) (o:Obj) (w':World):Prop:=
 (∀ x,w'.cell? x=(w.alloc o).cell? x)/\(∀ x,w'.frozen? x=(w.alloc o).frozen? x)/\w'.heap.size=w.heap.size+1/\Below (w.alloc o).heap.size (w.alloc o) w'
theorem box1 (w:World) (o:Obj) (n:Nat):Box1 w o ((w.alloc o).drewN n):=
 ⟨fun _=>rfl,fun _=>rfl,by simp,below_drewN (Below.refl _ _) n⟩
def ev (n:Int):Value:=if n=0 then .nilIface else errN n
theorem ev_0:ev 0=.nilIface:=rfl
theorem ev_ne {n:Int} (h:n≠0):ev n=errN n:=if_neg h
def dropSeq:Nat->Code->Code
 | 0,c=>c
 | n+1,.seq _ b=>dropSeq n b
 | _+1,c=>c
end Go.Proofs.YtcjdoeclblhaeaaGreatDoor
namespace Go.Proofs.YtcjdoeclblhaeaaGreatDoor
open Go.RowKit
structure But (F:Nat->Prop) (w w':World):Prop where
 os:w'.os=w.os
 tape:w'.tape=w.tape
 output:w'.output=w.output
 size:w.heap.size<=w'.heap.size
 block:∀ k,k<w.heap.size -> ¬ F k->w'.heap[k]? = w.heap[k]?
theorem But.refl (F:Nat->Prop) (w:World):But F w w:=⟨rfl,rfl,rfl,Nat.le_refl _,fun _ _ _=>rfl⟩
theorem But.trans {F:Nat->Prop} {a b c:World} (h:But F a b) (k:But F b c):But F a c:=
 ⟨k.os.trans h.os,k.tape.trans h.tape,k.output.trans h.output,Nat.le_trans h.size k.size,fun i hi hF=>(k.block i (Nat.lt_of_lt_of_le hi h.size) hF).trans (h.block i hi hF)⟩
theorem But.then {F G:Nat->Prop} {a b c:World} (h:But F a b) (k:But G b c) (hG:∀ i,i<a.heap.size->G i->F i):But F a c:=
 ⟨k.os.trans h.os,k.tape.trans h.tape,k.output.trans h.output,Nat.le_trans h.size k.size,fun i hi hF=>(k.block i (Nat.lt_of_lt_of_le hi h.size) (fun g=>hF (hG i hi g))).trans (h.block i hi hF)⟩
theorem But.mono {F G:Nat->Prop} {w w':World} (h:But F w w') (hG:∀ k,k<w.heap.size->F k->G k):But G w w':=⟨h.os,h.tape,h.output,h.size,fun k hk hF=>h.block k hk (fun g=>hF (hG k hk g))⟩
theorem But.below {F:Nat->Prop} {w w':World} (h:Below w.heap.size w w'):But F w w':=⟨h.os,h.tape,h.output,h.size,fun k hk _=>h.block k hk⟩
theorem But.step {F:Nat->Prop} {a b c:World} (h:But F a b) (k:Below b.heap.size b c):But F a c:=h.trans (.below k)
theorem But.under {F:Nat->Prop} {w w':World} (h:But F w w') {n:Nat} (hn:n<=w.heap.size) (hF:∀ k,k<n -> ¬ F k):Below n w w':=⟨h.os,h.tape,h.output,h.size,fun k hk=>h.block k (by omega) (hF k hk)⟩
theorem But.under2 {F:Nat->Prop} {n:Nat} {a b c:World} (h:Below n a b) (k:But F b c) (hn:n<=b.heap.size) (hF:∀ i,i<n -> ¬ F i):Below n a c:=h.trans (k.under hn hF)
theorem But.alloc {F:Nat->Prop} {a w:World} (h:But F a w) (o:Obj):But F a (w.alloc o):=h.step (below_al (below_self _) _)
theorem But.drew {F:Nat->Prop} {a w:World} (h:But F a w):But F a w.drew:=⟨h.os,h.tape,h.output,h.size,h.block⟩
theorem But.setCell {F:Nat->Prop} {a w:World} (h:But F a w) {p:Addr} (hp:F p.block \/ a.heap.size<=p.block) (u:Value):But F a (w.setCell p u):=
 ⟨h.os,h.tape,h.output,by have:=h.size;simpa [World.setCell] using this,fun k hk hF=>by
  have hne:k≠p.block:=fun e=>by
   subst e
   rcases hp with g|g
   ·exact hF g
   ·omega
  exact (Below.heap_setCell w p u k hne).trans (h.block k hk hF)⟩
theorem But.grown {F:Nat->Prop} {a w w':World} {row:Option Nat} (h:But F a w) (hg:w.grownBy w' row) (hr:∀ k,row=some k->F k \/ a.heap.size<=k):But F a w':=
 ⟨hg.os.trans h.os,hg.tape.trans h.tape,hg.output.trans h.output,Nat.le_trans h.size hg.size,fun k hk hF=>by
  exact (hg.block k (Nat.lt_of_lt_of_le hk h.size) (fun e=>(hr k e.symm).elim hF (fun g=>by omega))).trans (h.block k hk hF)⟩
theorem But.cell {F:Nat->Prop} {w w':World} (h:But F w w') {p:Addr} (hp:p.block<w.heap.size) (hF:¬ F p.block):w'.cell? p=w.cell? p:=World.cell?_of_block (w:=w) (h.block p.block hp hF)
theorem But.frozen {F:Nat->Prop} {w w':World} (h:But F w w') {p:Addr} (hp:p.block<w.heap.size) (hF:¬ F p.block):w'.frozen? p=w.frozen? p:=World.frozen?_of_block (w:=w) (h.block p.block hp hF)
end Go.Proofs.YtcjdoeclblhaeaaGreatDoor
namespace Go.Proofs.YtcjdoeclblhaeaaGreatDoor
open Go.RowKit
theorem behind_eq (n:Int) (h0:0<=n):wrap64 (wrap64 (2 ^ (32 - n).toNat) - 1)=Bur.sz n - 1:=by
 have h1:=Bur.sz_pos n
 have h2:=Bur.sz_le n h0
 unfold Bur.sz at *
 rw[IntWalk.wrap64_in (2 ^ (32 - n).toNat) (by omega),IntWalk.wrap64_in _ (by omega)]
theorem behind (n:Int) (w:World) (h0:0<=n) (h1:n<=32):Calls Tryz.prog 118 #[.int .i64 n] w fun e w'=>e=.returned (.int .i64 (Bur.sz n - 1))/\w'=w:=by
 go_enter Tryz.func118,Tryz.ntmps118
 go_wp2
 go_ret
 exact⟨ret_int (behind_eq n h0),rfl⟩
theorem cut (a n:Int) (w:World) (ha:Bur.isA a=true) (h0:0<=n) (h1:n<=32):Calls Tryz.prog 301 #[.int .i64 a,.int .i64 n] w fun e w'=>e=.returned (.agg #[.int .i64 (a - a % Bur.sz n),.int .i64 n])/\w'=w.alloc (.cells #[.int .i64 (a - a % Bur.sz n),.int .i64 n] 105):=by
 obtain⟨a0,a1⟩:=Bur.isA_true ha
 have hm:=Bur.andNot_mask a n a0 a1 h0
 go_enter Tryz.func301,Tryz.ntmps301
 go_wp2_with (go_at_call 118;refine (behind _ _ h0 h1).mono ?_;rintro e w' ⟨rfl,rfl⟩)
 exact bodyPost_ret (v:=.agg #[.int .i64 (a - a % Bur.sz n),.int .i64 n]) (by simp[results,Tryz.results301,go_sem]) rfl ⟨rfl,rfl⟩
abbrev pcs (a l:Int):Obj:=.cells #[.int .i64 a,.int .i64 l] 105
theorem check_range (a l:Int) (w:World) (h:l<0 \/ 32<l \/ Bur.isA a=false) :
  Calls Tryz.prog 84 #[pfx a l] w fun e w'=>e=.returned (errN 1)/\w'=w.alloc (pcs a l):=by
 by_cases h0:l<0
 ·go_enter Tryz.func84,Tryz.ntmps84
  go_wp2
  go_ret
  exact⟨rfl,rfl⟩
 by_cases h1:32<l
 ·go_enter Tryz.func84,Tryz.ntmps84
  go_wp2
  go_ret
  exact⟨rfl,rfl⟩
 have h2:Bur.isA a=false:=by
  rcases h with h|h|h
  ·exact absurd h h0
  ·exact absurd h h1
  ·exact h
 clear h
 go_enter Tryz.func84,Tryz.ntmps84
 go_wp2_with (go_at_call 87;refine (isAddress _ _).mono ?_;rintro e w' ⟨rfl,rfl⟩)
 go_ret
 exact⟨rfl,rfl⟩
theorem check_in0 (a l:Int) (w:World) (h0:0<=l) (h1:l<=32) (ha:Bur.isA a=true) (hz:(a % Bur.sz l != 0)=false) :
  Calls Tryz.prog 84 #[pfx a l] w fun e w'=>e=.returned .nilIface /\ ∃ n,w'=(w.alloc (pcs a l)).drewN n:=by
 obtain⟨a0,a1⟩:=Bur.isA_true ha
 have hm:=Bur.and_mask a l a0 a1 h0
 go_enter Tryz.func84,Tryz.ntmps84
 go_wp2_with (go_at_call 87;refine (isAddress _ _).mono ?_;rintro e w' ⟨rfl,rfl⟩)
 go_quiet ((go_at_call 118;exact Calls.quiet_of_same (behind _ _ h0 h1)))
 go_wp2
 go_ret
 exact⟨rfl,_,rfl⟩
theorem check_in2 (a l:Int) (w:World) (h0:0<=l) (h1:l<=32) (ha:Bur.isA a=true) (hz:(a % Bur.sz l != 0)=true) :
  Calls Tryz.prog 84 #[pfx a l] w fun e w'=>e=.returned (errN 2) /\ ∃ n,w'=(w.alloc (pcs a l)).drewN n:=by
 obtain⟨a0,a1⟩:=Bur.isA_true ha
 have hm:=Bur.and_mask a l a0 a1 h0
 go_enter Tryz.func84,Tryz.ntmps84
 go_wp2_with (go_at_call 87;refine (isAddress _ _).mono ?_;rintro e w' ⟨rfl,rfl⟩)
 go_quiet ((go_at_call 118;exact Calls.quiet_of_same (behind _ _ h0 h1)))
 go_wp2
 go_ret
 exact⟨rfl,_,rfl⟩
theorem check_ok (a l:Int) (w:World) (h:Bur.fault a l=0) :
  Calls Tryz.prog 84 #[pfx a l] w fun e w'=>e=.returned .nilIface/\Box1 w (pcs a l) w':=by
 rcases Bur.fault_cases a l with ⟨e,_⟩|⟨e,_⟩|⟨_,h0,h1,ha,hz⟩
 ·omega
 ·omega
 refine (check_in0 a l w h0 h1 ha (by simp[hz])).mono ?_
 rintro e w' ⟨rfl,n,rfl⟩
 exact⟨rfl,box1 _ _ _⟩
theorem check_no (a l:Int) (w:World) (h:Bur.fault a l≠0) :
  Calls Tryz.prog 84 #[pfx a l] w fun e w'=>e=.returned (errN (Bur.fault a l))/\Box1 w (pcs a l) w':=by
 rcases Bur.fault_cases a l with ⟨e,hr⟩|⟨e,h0,h1,ha,hz⟩|⟨e,_⟩
 ·refine (check_range a l w hr).mono ?_
  rintro e' w' ⟨rfl,rfl⟩
  exact⟨by rw[e],box1 _ _ 0⟩
 ·refine (check_in2 a l w h0 h1 ha (by simp[hz])).mono ?_
  rintro e' w' ⟨rfl,n,rfl⟩
  exact⟨by rw[e],box1 _ _ _⟩
 ·omega
theorem within_no1 (a l a2 l2:Int) (w:World) (h:Bur.fault a l≠0) :
  Calls Tryz.prog 285 #[pfx a l,pfx a2 l2] w fun e w'=>e=.returned (.tuple #[.bool false,errN (Bur.fault a l)])/\Below w.heap.size w w':=by
 go_enter Tryz.func285,Tryz.ntmps285
 go_wp2_with (go_at_call 84;refine (check_no _ _ _ h).mono ?_;rintro e w' ⟨rfl,hc,hf,hs,hb⟩)
 go_ret2
 exact⟨rfl,below_via (below_al (below_al (below_al (below_self _) _) _) _) hb⟩
theorem within_no2 (a l a2 l2:Int) (w:World) (h:Bur.fault a l=0) (h2:Bur.fault a2 l2≠0) :
  Calls Tryz.prog 285 #[pfx a l,pfx a2 l2] w fun e w'=>e=.returned (.tuple #[.bool false,errN (Bur.fault a2 l2)])/\Below w.heap.size w w':=by
 go_enter Tryz.func285,Tryz.ntmps285
 go_wp2_with fail
 refine (check_ok _ _ _ h).mono ?_;rintro e w' ⟨rfl,hc,hf,hs,hb⟩
 go_wp2_with fail
 refine (check_no _ _ _ h2).mono ?_;rintro e w2 ⟨rfl,hc2,hf2,hs2,hb2⟩
 go_wp2
 go_ret2
 exact⟨rfl,below_via (below_al (below_via (below_al (below_al (below_al (below_self _) _) _) _) hb) _) hb2⟩
theorem within_lt (a l a2 l2:Int) (w:World) (h:Bur.fault a l=0) (h2:Bur.fault a2 l2=0) (hlt:l<l2) :
  Calls Tryz.prog 285 #[pfx a l,pfx a2 l2] w fun e w'=>e=.returned (.tuple #[.bool false,.nilIface])/\Below w.heap.size w w':=by
 have hd:decide (l2<=l)=false:=by simp;omega
 go_enter Tryz.func285,Tryz.ntmps285
 go_wp2_with fail
 refine (check_ok _ _ _ h).mono ?_;rintro e w' ⟨rfl,hc,hf,hs,hb⟩
 go_wp2_with fail
 refine (check_ok _ _ _ h2).mono ?_;rintro e w2 ⟨rfl,hc2,hf2,hs2,hb2⟩
 go_wp2
 go_quiet (fail)
 go_wp2
 go_ret2
 exact⟨rfl,below_drewN (below_via (below_al (below_via (below_al (below_al (below_al (below_self _) _) _) _) hb) _) hb2) _⟩
theorem within_ge (a l a2 l2:Int) (w:World) (h:Bur.fault a l=0) (h2:Bur.fault a2 l2=0) (hge:l2<=l) :
  Calls Tryz.prog 285 #[pfx a l,pfx a2 l2] w fun e w'=>e=.returned (.tuple #[.bool (a - a % Bur.sz l2==a2),.nilIface])/\Below w.heap.size w w':=by
 have hd:decide (l2<=l)=true:=by simp;omega
 obtain⟨g0,g1,a0,a1,hz⟩:=Bur.fault_ok h
 obtain⟨g2,g3,_,_,_⟩:=Bur.fault_ok h2
 have ha:=Bur.isA_mk a0 a1
 cases hq:(a - a % Bur.sz l2==a2)
 all_goals
  go_enter Tryz.func285,Tryz.ntmps285
  go_wp2_with fail
  refine (check_ok _ _ _ h).mono ?_;rintro e w' ⟨rfl,hc,hf,hs,hb⟩
  go_wp2_with fail
  refine (check_ok _ _ _ h2).mono ?_;rintro e w2 ⟨rfl,hc2,hf2,hs2,hb2⟩
  go_wp2
  have k0:w2.cell? ⟨w.heap.size,0,none⟩=some (.int .i64 a):=by go_simp
  have k1:w2.cell? ⟨w.heap.size,1,none⟩=some (.int .i64 l):=by go_simp
  have k2:w2.cell? ⟨w.heap.size+1,0,none⟩=some (.int .i64 a2):=by go_simp
  have k3:w2.cell? ⟨w.heap.size+1,1,none⟩=some (.int .i64 l2):=by go_simp
  have k4:w2.heap.size=w.heap.size+4:=by rw[hs2];simp;rw[hs];simp
  have hb':=below_via (below_al (below_via (below_al (below_al (below_al (below_self w) _) _) _) hb) _) hb2
  clear hc hf hs hb hc2 hf2 hs2 hb2
  go_region_held3 (fun w2=>w2.cell? ⟨w.heap.size,0,none⟩=some (.int .i64 a)/\w2.cell? ⟨w.heap.size,1,none⟩=some (.int .i64 l)/\w2.cell? ⟨w.heap.size+1,0,none⟩=some (.int .i64 a2)/\w2.cell? ⟨w.heap.size+1,1,none⟩=some (.int .i64 l2)) (go_simp)
   (first
    | (go_at_call 301;refine (cut _ _ _ ha g2 g3).mono ?_;rintro e w2 ⟨rfl,rfl⟩))
  go_wp2
  go_ret2
  exact⟨rfl,(below_al hb' _).drew⟩
theorem within_ok (a l a2 l2:Int) (w:World) (h:Bur.fault a l=0) (h2:Bur.fault a2 l2=0) :
  Calls Tryz.prog 285 #[pfx a l,pfx a2 l2] w fun e w'=>e=.returned (.tuple #[.bool (Bur.inB a l a2 l2),.nilIface])/\Below w.heap.size w w':=by
 obtain⟨g0,g1,a0,a1,hz⟩:=Bur.fault_ok h
 obtain⟨g2,g3,b0,b1,hz2⟩:=Bur.fault_ok h2
 rw[Bur.within_eq g0 g1 hz g2 g3 hz2]
 by_cases hl:l2<=l
 ·refine (within_ge a l a2 l2 w h h2 hl).mono ?_
  rintro e w' ⟨rfl,hb⟩
  refine⟨?_,hb⟩
  rw[show (decide (l2<=l)&&decide (a - a % Bur.sz l2=a2))=(a - a % Bur.sz l2==a2) from by simp[hl];rfl]
 ·refine (within_lt a l a2 l2 w h h2 (by omega)).mono ?_
  rintro e w' ⟨rfl,hb⟩
  refine⟨?_,hb⟩
  rw[show (decide (l2<=l)&&decide (a - a % Bur.sz l2=a2))=false from by simp[hl]]
theorem check_any (a l:Int) (w:World):Calls Tryz.prog 84 #[pfx a l] w fun e w'=>e=.returned (ev (Bur.fault a l))/\Below w.heap.size w w':=by
 by_cases h:Bur.fault a l=0
 ·refine (check_ok a l w h).mono ?_
  rintro e w' ⟨rfl,_,_,_,hb⟩
  exact⟨by rw[h,ev_0],below_via (below_al (below_self _) _) hb⟩
 ·refine (check_no a l w h).mono ?_
  rintro e w' ⟨rfl,_,_,_,hb⟩
  exact⟨by rw[ev_ne h],below_via (below_al (below_self _) _) hb⟩
theorem within_any (a l a2 l2:Int) (w:World):Calls Tryz.prog 285 #[pfx a l,pfx a2 l2] w fun e w'=>e=.returned (.tuple #[.bool (Bur.witB a l a2 l2),ev (Bur.witF a l a2 l2)])/\Below w.heap.size w w':=by
 by_cases h:Bur.fault a l=0
 ·have e:Bur.witF a l a2 l2=Bur.fault a2 l2:=if_pos h
  by_cases h2:Bur.fault a2 l2=0
  ·rw[show Bur.witB a l a2 l2=Bur.inB a l a2 l2 from by simp[Bur.witB,e,h2],e,h2,ev_0]
   exact within_ok a l a2 l2 w h h2
  ·rw[show Bur.witB a l a2 l2=false from by simp[Bur.witB,e,h2],e,ev_ne h2]
   exact within_no2 a l a2 l2 w h h2
 ·have e:Bur.witF a l a2 l2=Bur.fault a l:=if_neg h
  rw[show Bur.witB a l a2 l2=false from by simp[Bur.witB,e,h],e,ev_ne h]
  exact within_no1 a l a2 l2 w h
end Go.Proofs.YtcjdoeclblhaeaaGreatDoor
namespace Go.Proofs.YtcjdoeclblhaeaaGreatDoor
open Go.RowKit
structure Pf (w:World) (b:Nat) (x y:Int):Prop where
 c0:w.cell? ⟨b,0,none⟩=some (.int .i64 x)
 c1:w.cell? ⟨b,1,none⟩=some (.int .i64 y)
 f0:w.frozen? ⟨b,0,none⟩=false
 f1:w.frozen? ⟨b,1,none⟩=false
 lt:b<w.heap.size
theorem Pf.step {w w':World} {b:Nat} {x y:Int} (h:Pf w b x y) (hb:Below w.heap.size w w'):Pf w' b x y:=by
 have hl:=h.lt
 refine⟨?_,?_,?_,?_,?_⟩
 ·rw[hb.cell (p:=⟨b,0,none⟩) hl];exact h.c0
 ·rw[hb.cell (p:=⟨b,1,none⟩) hl];exact h.c1
 ·rw[hb.frozen (p:=⟨b,0,none⟩) hl];exact h.f0
 ·rw[hb.frozen (p:=⟨b,1,none⟩) hl];exact h.f1
 ·have:=hb.size;omega
theorem Pf.alloc {w:World} {b:Nat} {x y:Int} (h:Pf w b x y) (o:Obj):Pf (w.alloc o) b x y:=h.step (below_al (below_self _) _)
theorem Pf.new (w:World) (x y:Int):Pf (w.alloc (pcs x y)) w.heap.size x y:=⟨by simp,by simp,by simp,by simp,by simp⟩
end Go.Proofs.YtcjdoeclblhaeaaGreatDoor
namespace Go.Proofs.YtcjdoeclblhaeaaGreatDoor
open Go.RowKit
theorem ends_no (a l:Int) (w:World) (h:Bur.fault a l≠0) :
  Calls Tryz.prog 302 #[pfx a l] w fun e w'=>e=.returned (.tuple #[.int .i64 0,.int .i64 0,errN (Bur.fault a l)])/\Below w.heap.size w w':=by
 go_enter Tryz.func302,Tryz.ntmps302
 go_wp2_with (go_at_call 84;refine (check_no _ _ _ h).mono ?_;rintro e w' ⟨rfl,hc,hf,hs,hb⟩)
 go_ret3
 exact⟨rfl,below_via (below_al (below_al (below_self _) _) _) hb⟩
theorem ends_ok (a l:Int) (w:World) (h:Bur.fault a l=0) :
  Calls Tryz.prog 302 #[pfx a l] w fun e w'=>e=.returned (.tuple #[.int .i64 a,.int .i64 (a+(Bur.sz l - 1)),.nilIface])/\Below w.heap.size w w':=by
 obtain⟨h0,h1,a0,a1,hz⟩:=Bur.fault_ok h
 have hm:=Bur.or_mask a l a0 a1 h0 hz
 go_enter Tryz.func302,Tryz.ntmps302
 go_wp2_with (go_at_call 84;refine (check_ok _ _ _ h).mono ?_;rintro e w' ⟨rfl,hc,hf,hs,hb⟩)
 go_quiet ((go_at_call 118;exact Calls.quiet_of_same (behind _ _ h0 h1)))
 go_wp2
 go_ret3
 exact⟨rfl,below_drewN (below_via (below_al (below_al (below_self _) _) _) hb) _⟩
theorem ends_any (a l:Int) (w:World):Calls Tryz.prog 302 #[pfx a l] w fun e w'=>e=.returned (.tuple #[.int .i64 (Bur.endA a l),.int .i64 (Bur.endB a l),ev (Bur.fault a l)])/\Below w.heap.size w w':=by
 by_cases h:Bur.fault a l=0
 ·rw[show Bur.endA a l=a from if_pos h,show Bur.endB a l=a+(Bur.sz l - 1) from if_pos h,show ev (Bur.fault a l)=.nilIface from by rw[h,ev_0]]
  exact ends_ok a l w h
 ·rw[show Bur.endA a l=0 from if_neg h,show Bur.endB a l=0 from if_neg h,ev_ne h]
  exact ends_no a l w h
end Go.Proofs.YtcjdoeclblhaeaaGreatDoor
namespace Go.Proofs.YtcjdoeclblhaeaaGreatDoor
open Go.RowKit
structure Bx (w:World) (B:Nat) (u v:Int):Prop where
 c0:w.cell? ⟨B,0,none⟩=some (.int .i64 u)
 c1:w.cell? ⟨B,1,none⟩=some (.int .i64 v)
 f0:w.frozen? ⟨B,0,none⟩=false
 f1:w.frozen? ⟨B,1,none⟩=false
theorem Bx.lt {w:World} {B:Nat} {u v:Int} (h:Bx w B u v):B<w.heap.size:=World.block_lt_of_cell? _ _ h.c0
theorem Bx.step {w w':World} {B:Nat} {u v:Int} (h:Bx w B u v) (hb:Below w.heap.size w w'):Bx w' B u v:=
 ⟨(hb.cell (p:=⟨B,0,none⟩) h.lt).trans h.c0,(hb.cell (p:=⟨B,1,none⟩) h.lt).trans h.c1,(hb.frozen (p:=⟨B,0,none⟩) h.lt).trans h.f0,(hb.frozen (p:=⟨B,1,none⟩) h.lt).trans h.f1⟩
theorem Bx.new (w:World) (t:Nat) (u v:Int):Bx (w.alloc (.cells #[.int .i64 u,.int .i64 v] t)) w.heap.size u v:=⟨by simp,by simp,by simp,by simp⟩
theorem Bx.put {w:World} {B:Nat} {u v:Int} (h:Bx w B u v) (x y:Int):(w.setCell ⟨B,0,none⟩ (.int .i64 x)).cell? ⟨B,0,none⟩=some (.int .i64 x)/\((w.setCell ⟨B,0,none⟩ (.int .i64 x)).setCell ⟨B,1,none⟩ (.int .i64 y)).cell? ⟨B,1,none⟩=some (.int .i64 y):=by
 obtain⟨c0,c1,f0,f1⟩:=h
 exact⟨by go_simp,by go_simp⟩
end Go.Proofs.YtcjdoeclblhaeaaGreatDoor
