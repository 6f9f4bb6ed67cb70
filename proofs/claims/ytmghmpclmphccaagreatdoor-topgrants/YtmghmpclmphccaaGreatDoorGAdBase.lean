/- -/
import Derived.Test.YtmghmpclmphccaaGreatDoorProg
import Derived.Test.YtmghmpclmphccaaGreatDoorGAdMath
import Derived.WalkSpells
import Derived.BigQuiet
import Derived.Deep.RegionHeld3
import Derived.WalkSmall
import Derived.Deep.DeepCutAuto
namespace Go.Proofs.YtmghmpclmphccaaGreatDoor
open Go.RowKit
theorem Xl {a b:Bool}(h:a=b):Ending.returned (.bool a)=.returned (.bool b):=by rw[h]
theorem Ug {k:IntKind}{a b:Int}(h:a=b):Ending.returned (.int k a)=.returned (.int k b):=by rw[h]
theorem ER {W w1:World}(hb:Below W.heap.size W w1):(∀b o,b<W.heap.size->w1.cell? ⟨b,o,none⟩=W.cell? ⟨b,o,none⟩)/\(∀b o,b<W.heap.size->w1.frozen? ⟨b,o,none⟩=W.frozen? ⟨b,o,none⟩):=
 ⟨fun b o h=>hb.cell (p:=⟨b,o,none⟩) h,fun b o h=>hb.frozen (p:=⟨b,o,none⟩) h⟩
theorem dR (a:Int)(w:World):Calls Tryz.prog 66 #[.int .i64 a] w fun e w'=>e=.returned (.bool (Bur.isA a))/\w'=w:=by
 go_enter Tryz.func66,Tryz.ntmps66
 go_wp2
 all_goals (go_ret;refine⟨Xl ?_,rfl⟩;simp[Bur.isA];try omega)
abbrev aC (n:Int):Value:=.iface 77 (.int .i64 n)
abbrev pfx (a l:Int):Value:=.agg #[.int .i64 a,.int .i64 l]
theorem ak {w v w':World}(h:Below w.heap.size w v)(hb:Below v.heap.size v w'):Below w.heap.size w w':=h.trans (hb.mono h.size)
theorem aj {w v:World}(h:Below w.heap.size w v)(o:Obj):Below w.heap.size w (v.alloc o):=h.alloc h.size o
theorem ah (w:World):Below w.heap.size w w:=Below.refl _ _
def aeA (w:World)(o:Obj)(w':World):Prop:=
 (∀x,w'.cell? x=(w.alloc o).cell? x)/\(∀x,w'.frozen? x=(w.alloc o).frozen? x)/\w'.heap.size=w.heap.size+1/\Below (w.alloc o).heap.size (w.alloc o) w'
theorem box1 (w:World)(o:Obj)(n:Nat):aeA w o ((w.alloc o).drewN n):=
 ⟨fun _=>rfl,fun _=>rfl,by simp,below_drewN (Below.refl _ _) n⟩
def ev (n:Int):Value:=if n=0 then .nilIface else aC n
theorem aB:ev 0=.nilIface:=rfl
theorem ay {n:Int}(h:n≠0):ev n=aC n:=if_neg h
def dW:Nat->Code->Code
 | 0,c=>c
 | n+1,.seq _ b=>dW n b
 | _+1,c=>c
theorem WG (n:Int)(h0:0<=n):wrap64 (wrap64 (2 ^ (32 - n).toNat) - 1)=Bur.sz n - 1:=by
 have h1:=Bur.bJ n
 have h2:=Bur.adS n h0
 unfold Bur.sz at *
 rw[IntWalk.wrap64_in (2 ^ (32 - n).toNat) (by omega),IntWalk.wrap64_in _ (by omega)]
theorem behind (n:Int)(w:World)(h0:0<=n)(h1:n<=32):Calls Tryz.prog 67 #[.int .i64 n] w fun e w'=>e=.returned (.int .i64 (Bur.sz n - 1))/\w'=w:=by
 go_enter Tryz.func67,Tryz.ntmps67
 go_wp2
 go_ret
 exact⟨Ug (WG n h0),rfl⟩
theorem cut (a n:Int)(w:World)(ha:Bur.isA a=true)(h0:0<=n)(h1:n<=32):Calls Tryz.prog 37 #[.int .i64 a,.int .i64 n] w fun e w'=>e=.returned (.agg #[.int .i64 (a - a % Bur.sz n),.int .i64 n])/\w'=w.alloc (.cells #[.int .i64 (a - a % Bur.sz n),.int .i64 n] 31):=by
 obtain⟨a0,a1⟩:=Bur.eX ha
 have hm:=Bur.Ov a n a0 a1 h0
 go_enter Tryz.func37,Tryz.ntmps37
 go_wp2_with (go_at_call 67;refine (behind _ _ h0 h1).mono ?_;rintro e w' ⟨rfl,rfl⟩)
 exact bodyPost_ret (v:=.agg #[.int .i64 (a - a % Bur.sz n),.int .i64 n]) (by simp[results,Tryz.results37,go_sem]) rfl ⟨rfl,rfl⟩
abbrev pcs (a l:Int):Obj:=.cells #[.int .i64 a,.int .i64 l] 31
theorem O9 (a l:Int)(w:World)(h:l<0 \/ 32<l \/ Bur.isA a=false) :
  Calls Tryz.prog 36 #[pfx a l] w fun e w'=>e=.returned (aC 1)/\w'=w.alloc (pcs a l):=by
 by_cases h0:l<0
 ·go_enter Tryz.func36,Tryz.ntmps36
  go_wp2
  go_ret
  exact⟨rfl,rfl⟩
 by_cases h1:32<l
 ·go_enter Tryz.func36,Tryz.ntmps36
  go_wp2
  go_ret
  exact⟨rfl,rfl⟩
 have h2:Bur.isA a=false:=by
  rcases h with h|h|h
  ·exact absurd h h0
  ·exact absurd h h1
  ·exact h
 clear h
 go_enter Tryz.func36,Tryz.ntmps36
 go_wp2_with (go_at_call 66;refine (dR _ _).mono ?_;rintro e w' ⟨rfl,rfl⟩)
 go_ret
 exact⟨rfl,rfl⟩
theorem Vr (a l:Int)(w:World)(h0:0<=l)(h1:l<=32)(ha:Bur.isA a=true)(hz:(a % Bur.sz l != 0)=false) :
  Calls Tryz.prog 36 #[pfx a l] w fun e w'=>e=.returned .nilIface /\ ∃n,w'=(w.alloc (pcs a l)).drewN n:=by
 obtain⟨a0,a1⟩:=Bur.eX ha
 have hm:=Bur.OV a l a0 a1 h0
 go_enter Tryz.func36,Tryz.ntmps36
 go_wp2_with (go_at_call 66;refine (dR _ _).mono ?_;rintro e w' ⟨rfl,rfl⟩)
 go_quiet ((go_at_call 67;exact Calls.quiet_of_same (behind _ _ h0 h1)))
 go_wp2
 go_ret
 exact⟨rfl,_,rfl⟩
theorem Ws (a l:Int)(w:World)(h0:0<=l)(h1:l<=32)(ha:Bur.isA a=true)(hz:(a % Bur.sz l != 0)=true) :
  Calls Tryz.prog 36 #[pfx a l] w fun e w'=>e=.returned (aC 2) /\ ∃n,w'=(w.alloc (pcs a l)).drewN n:=by
 obtain⟨a0,a1⟩:=Bur.eX ha
 have hm:=Bur.OV a l a0 a1 h0
 go_enter Tryz.func36,Tryz.ntmps36
 go_wp2_with (go_at_call 66;refine (dR _ _).mono ?_;rintro e w' ⟨rfl,rfl⟩)
 go_quiet ((go_at_call 67;exact Calls.quiet_of_same (behind _ _ h0 h1)))
 go_wp2
 go_ret
 exact⟨rfl,_,rfl⟩
theorem fK (a l:Int)(w:World)(h:Bur.fault a l=0) :
  Calls Tryz.prog 36 #[pfx a l] w fun e w'=>e=.returned .nilIface/\aeA w (pcs a l) w':=by
 rcases Bur.AU a l with ⟨e,_⟩|⟨e,_⟩|⟨_,h0,h1,ha,hz⟩
 ·omega
 ·omega
 refine (Vr a l w h0 h1 ha (by simp[hz])).mono ?_
 rintro e w' ⟨rfl,n,rfl⟩
 exact⟨rfl,box1 _ _ _⟩
theorem qm (a l:Int)(w:World)(h:Bur.fault a l≠0) :
  Calls Tryz.prog 36 #[pfx a l] w fun e w'=>e=.returned (aC (Bur.fault a l))/\aeA w (pcs a l) w':=by
 rcases Bur.AU a l with ⟨e,hr⟩|⟨e,h0,h1,ha,hz⟩|⟨e,_⟩
 ·refine (O9 a l w hr).mono ?_
  rintro e' w' ⟨rfl,rfl⟩
  exact⟨by rw[e],box1 _ _ 0⟩
 ·refine (Ws a l w h0 h1 ha (by simp[hz])).mono ?_
  rintro e' w' ⟨rfl,n,rfl⟩
  exact⟨by rw[e],box1 _ _ _⟩
 ·omega
theorem Sv (a l a2 l2:Int)(w:World)(h:Bur.fault a l≠0) :
  Calls Tryz.prog 17 #[pfx a l,pfx a2 l2] w fun e w'=>e=.returned (.tuple #[.bool false,aC (Bur.fault a l)])/\Below w.heap.size w w':=by
 go_enter Tryz.func17,Tryz.ntmps17
 go_wp2_with (go_at_call 36;refine (qm _ _ _ h).mono ?_;rintro e w' ⟨rfl,hc,hf,hs,hb⟩)
 go_ret2
 exact⟨rfl,ak (aj (aj (aj (ah _) _) _) _) hb⟩
theorem Qz (a l a2 l2:Int)(w:World)(h:Bur.fault a l=0)(h2:Bur.fault a2 l2≠0) :
  Calls Tryz.prog 17 #[pfx a l,pfx a2 l2] w fun e w'=>e=.returned (.tuple #[.bool false,aC (Bur.fault a2 l2)])/\Below w.heap.size w w':=by
 go_enter Tryz.func17,Tryz.ntmps17
 go_wp2_with fail
 refine (fK _ _ _ h).mono ?_;rintro e w' ⟨rfl,hc,hf,hs,hb⟩
 go_wp2_with fail
 refine (qm _ _ _ h2).mono ?_;rintro e w2 ⟨rfl,hc2,hf2,hs2,hb2⟩
 go_wp2
 go_ret2
 exact⟨rfl,ak (aj (ak (aj (aj (aj (ah _) _) _) _) hb) _) hb2⟩
theorem WH (a l a2 l2:Int)(w:World)(h:Bur.fault a l=0)(h2:Bur.fault a2 l2=0)(hlt:l<l2) :
  Calls Tryz.prog 17 #[pfx a l,pfx a2 l2] w fun e w'=>e=.returned (.tuple #[.bool false,.nilIface])/\Below w.heap.size w w':=by
 have hd:decide (l2<=l)=false:=by simp;omega
 go_enter Tryz.func17,Tryz.ntmps17
 go_wp2_with fail
 refine (fK _ _ _ h).mono ?_;rintro e w' ⟨rfl,hc,hf,hs,hb⟩
 go_wp2_with fail
 refine (fK _ _ _ h2).mono ?_;rintro e w2 ⟨rfl,hc2,hf2,hs2,hb2⟩
 go_wp2
 go_quiet (fail)
 go_wp2
 go_ret2
 exact⟨rfl,below_drewN (ak (aj (ak (aj (aj (aj (ah _) _) _) _) hb) _) hb2) _⟩
theorem Vx (a l a2 l2:Int)(w:World)(h:Bur.fault a l=0)(h2:Bur.fault a2 l2=0)(hge:l2<=l) :
  Calls Tryz.prog 17 #[pfx a l,pfx a2 l2] w fun e w'=>e=.returned (.tuple #[.bool (a - a % Bur.sz l2==a2),.nilIface])/\Below w.heap.size w w':=by
 have hd:decide (l2<=l)=true:=by simp;omega
 obtain⟨g0,g1,a0,a1,hz⟩:=Bur.bn h
 obtain⟨g2,g3,_,_,_⟩:=Bur.bn h2
 have ha:=Bur.qV a0 a1
 cases hq:(a - a % Bur.sz l2==a2)
 all_goals
  go_enter Tryz.func17,Tryz.ntmps17
  go_wp2_with fail
  refine (fK _ _ _ h).mono ?_;rintro e w' ⟨rfl,hc,hf,hs,hb⟩
  go_wp2_with fail
  refine (fK _ _ _ h2).mono ?_;rintro e w2 ⟨rfl,hc2,hf2,hs2,hb2⟩
  go_wp2
  have k0:w2.cell? ⟨w.heap.size,0,none⟩=some (.int .i64 a):=by go_simp
  have k1:w2.cell? ⟨w.heap.size,1,none⟩=some (.int .i64 l):=by go_simp
  have k2:w2.cell? ⟨w.heap.size+1,0,none⟩=some (.int .i64 a2):=by go_simp
  have k3:w2.cell? ⟨w.heap.size+1,1,none⟩=some (.int .i64 l2):=by go_simp
  have k4:w2.heap.size=w.heap.size+4:=by rw[hs2];simp;rw[hs];simp
  have hb':=ak (aj (ak (aj (aj (aj (ah w) _) _) _) hb) _) hb2
  clear hc hf hs hb hc2 hf2 hs2 hb2
  go_region_held3 (fun w2=>w2.cell? ⟨w.heap.size,0,none⟩=some (.int .i64 a)/\w2.cell? ⟨w.heap.size,1,none⟩=some (.int .i64 l)/\w2.cell? ⟨w.heap.size+1,0,none⟩=some (.int .i64 a2)/\w2.cell? ⟨w.heap.size+1,1,none⟩=some (.int .i64 l2)) (go_simp)
   (first
    | (go_at_call 37;refine (cut _ _ _ ha g2 g3).mono ?_;rintro e w2 ⟨rfl,rfl⟩))
  go_wp2
  go_ret2
  exact⟨rfl,(aj hb' _).drew⟩
theorem Wv (a l a2 l2:Int)(w:World)(h:Bur.fault a l=0)(h2:Bur.fault a2 l2=0) :
  Calls Tryz.prog 17 #[pfx a l,pfx a2 l2] w fun e w'=>e=.returned (.tuple #[.bool (Bur.inB a l a2 l2),.nilIface])/\Below w.heap.size w w':=by
 obtain⟨g0,g1,a0,a1,hz⟩:=Bur.bn h
 obtain⟨g2,g3,b0,b1,hz2⟩:=Bur.bn h2
 rw[Bur.WC g0 g1 hz g2 g3 hz2]
 by_cases hl:l2<=l
 ·refine (Vx a l a2 l2 w h h2 hl).mono ?_
  rintro e w' ⟨rfl,hb⟩
  refine⟨?_,hb⟩
  rw[show (decide (l2<=l)&&decide (a - a % Bur.sz l2=a2))=(a - a % Bur.sz l2==a2) from by simp[hl];rfl]
 ·refine (WH a l a2 l2 w h h2 (by omega)).mono ?_
  rintro e w' ⟨rfl,hb⟩
  refine⟨?_,hb⟩
  rw[show (decide (l2<=l)&&decide (a - a % Bur.sz l2=a2))=false from by simp[hl]]
theorem check_any (a l:Int)(w:World):Calls Tryz.prog 36 #[pfx a l] w fun e w'=>e=.returned (ev (Bur.fault a l))/\Below w.heap.size w w':=by
 by_cases h:Bur.fault a l=0
 ·refine (fK a l w h).mono ?_
  rintro e w' ⟨rfl,_,_,_,hb⟩
  exact⟨by rw[h,aB],ak (aj (ah _) _) hb⟩
 ·refine (qm a l w h).mono ?_
  rintro e w' ⟨rfl,_,_,_,hb⟩
  exact⟨by rw[ay h],ak (aj (ah _) _) hb⟩
theorem yD (a l a2 l2:Int)(w:World):Calls Tryz.prog 17 #[pfx a l,pfx a2 l2] w fun e w'=>e=.returned (.tuple #[.bool (Bur.dQ a l a2 l2),ev (Bur.DL a l a2 l2)])/\Below w.heap.size w w':=by
 by_cases h:Bur.fault a l=0
 ·have e:Bur.DL a l a2 l2=Bur.fault a2 l2:=if_pos h
  by_cases h2:Bur.fault a2 l2=0
  ·rw[show Bur.dQ a l a2 l2=Bur.inB a l a2 l2 from by simp[Bur.dQ,e,h2],e,h2,aB]
   exact Wv a l a2 l2 w h h2
  ·rw[show Bur.dQ a l a2 l2=false from by simp[Bur.dQ,e,h2],e,ay h2]
   exact Qz a l a2 l2 w h h2
 ·have e:Bur.DL a l a2 l2=Bur.fault a l:=if_neg h
  rw[show Bur.dQ a l a2 l2=false from by simp[Bur.dQ,e,h],e,ay h]
  exact Sv a l a2 l2 w h
structure But (F:Nat->Prop)(w w':World):Prop where
 os:w'.os=w.os
 tape:w'.tape=w.tape
 output:w'.output=w.output
 size:w.heap.size<=w'.heap.size
 block:∀k,k<w.heap.size -> ¬F k->w'.heap[k]? = w.heap[k]?
theorem But.refl (F:Nat->Prop)(w:World):But F w w:=⟨rfl,rfl,rfl,Nat.le_refl _,fun _ _ _=>rfl⟩
theorem But.trans {F:Nat->Prop}{a b c:World}(h:But F a b)(k:But F b c):But F a c:=
 ⟨k.os.trans h.os,k.tape.trans h.tape,k.output.trans h.output,Nat.le_trans h.size k.size,fun i hi hF=>(k.block i (Nat.lt_of_lt_of_le hi h.size) hF).trans (h.block i hi hF)⟩
theorem But.then {F G:Nat->Prop}{a b c:World}(h:But F a b)(k:But G b c)(hG:∀i,i<a.heap.size->G i->F i):But F a c:=
 ⟨k.os.trans h.os,k.tape.trans h.tape,k.output.trans h.output,Nat.le_trans h.size k.size,fun i hi hF=>(k.block i (Nat.lt_of_lt_of_le hi h.size) (fun g=>hF (hG i hi g))).trans (h.block i hi hF)⟩
theorem But.mono {F G:Nat->Prop}{w w':World}(h:But F w w')(hG:∀k,k<w.heap.size->F k->G k):But G w w':=⟨h.os,h.tape,h.output,h.size,fun k hk hF=>h.block k hk (fun g=>hF (hG k hk g))⟩
theorem But.below {F:Nat->Prop}{w w':World}(h:Below w.heap.size w w'):But F w w':=⟨h.os,h.tape,h.output,h.size,fun k hk _=>h.block k hk⟩
theorem But.step {F:Nat->Prop}{a b c:World}(h:But F a b)(k:Below b.heap.size b c):But F a c:=h.trans (.below k)
theorem But.under {F:Nat->Prop}{w w':World}(h:But F w w'){n:Nat}(hn:n<=w.heap.size)(hF:∀k,k<n -> ¬F k):Below n w w':=⟨h.os,h.tape,h.output,h.size,fun k hk=>h.block k (by omega) (hF k hk)⟩
theorem But.Qq {F:Nat->Prop}{n:Nat}{a b c:World}(h:Below n a b)(k:But F b c)(hn:n<=b.heap.size)(hF:∀i,i<n -> ¬F i):Below n a c:=h.trans (k.under hn hF)
theorem But.alloc {F:Nat->Prop}{a w:World}(h:But F a w)(o:Obj):But F a (w.alloc o):=h.step (aj (ah _) _)
theorem But.drew {F:Nat->Prop}{a w:World}(h:But F a w):But F a w.drew:=⟨h.os,h.tape,h.output,h.size,h.block⟩
theorem But.setCell {F:Nat->Prop}{a w:World}(h:But F a w){p:Addr}(hp:F p.block \/ a.heap.size<=p.block)(u:Value):But F a (w.setCell p u):=
 ⟨h.os,h.tape,h.output,by have:=h.size;simpa [World.setCell] using this,fun k hk hF=>by
  have hne:k≠p.block:=fun e=>by
   subst e
   rcases hp with g|g
   ·exact hF g
   ·omega
  exact (Below.heap_setCell w p u k hne).trans (h.block k hk hF)⟩
theorem But.grown {F:Nat->Prop}{a w w':World}{row:Option Nat}(h:But F a w)(hg:w.grownBy w' row)(hr:∀k,row=some k->F k \/ a.heap.size<=k):But F a w':=
 ⟨hg.os.trans h.os,hg.tape.trans h.tape,hg.output.trans h.output,Nat.le_trans h.size hg.size,fun k hk hF=>by
  exact (hg.block k (Nat.lt_of_lt_of_le hk h.size) (fun e=>(hr k e.symm).elim hF (fun g=>by omega))).trans (h.block k hk hF)⟩
theorem But.cell {F:Nat->Prop}{w w':World}(h:But F w w'){p:Addr}(hp:p.block<w.heap.size)(hF:¬F p.block):w'.cell? p=w.cell? p:=World.cell?_of_block (w:=w) (h.block p.block hp hF)
theorem But.frozen {F:Nat->Prop}{w w':World}(h:But F w w'){p:Addr}(hp:p.block<w.heap.size)(hF:¬F p.block):w'.frozen? p=w.frozen? p:=World.frozen?_of_block (w:=w) (h.block p.block hp hF)
theorem UC (a l:Int)(w:World)(h:Bur.fault a l≠0) :
  Calls Tryz.prog 170 #[pfx a l] w fun e w'=>e=.returned (.tuple #[.int .i64 0,.int .i64 0,aC (Bur.fault a l)])/\Below w.heap.size w w':=by
 go_enter Tryz.func170,Tryz.ntmps170
 go_wp2_with (go_at_call 36;refine (qm _ _ _ h).mono ?_;rintro e w' ⟨rfl,hc,hf,hs,hb⟩)
 go_ret3
 exact⟨rfl,ak (aj (aj (ah _) _) _) hb⟩
theorem LK (a l:Int)(w:World)(h:Bur.fault a l=0) :
  Calls Tryz.prog 170 #[pfx a l] w fun e w'=>e=.returned (.tuple #[.int .i64 a,.int .i64 (a+(Bur.sz l - 1)),.nilIface])/\Below w.heap.size w w':=by
 obtain⟨h0,h1,a0,a1,hz⟩:=Bur.bn h
 have hm:=Bur.or_mask a l a0 a1 h0 hz
 go_enter Tryz.func170,Tryz.ntmps170
 go_wp2_with (go_at_call 36;refine (fK _ _ _ h).mono ?_;rintro e w' ⟨rfl,hc,hf,hs,hb⟩)
 go_quiet ((go_at_call 67;exact Calls.quiet_of_same (behind _ _ h0 h1)))
 go_wp2
 go_ret3
 exact⟨rfl,below_drewN (ak (aj (aj (ah _) _) _) hb) _⟩
theorem Qo (a l:Int)(w:World):Calls Tryz.prog 170 #[pfx a l] w fun e w'=>e=.returned (.tuple #[.int .i64 (Bur.ZU a l),.int .i64 (Bur.Yl a l),ev (Bur.fault a l)])/\Below w.heap.size w w':=by
 by_cases h:Bur.fault a l=0
 ·rw[show Bur.ZU a l=a from if_pos h,show Bur.Yl a l=a+(Bur.sz l - 1) from if_pos h,show ev (Bur.fault a l)=.nilIface from by rw[h,aB]]
  exact LK a l w h
 ·rw[show Bur.ZU a l=0 from if_neg h,show Bur.Yl a l=0 from if_neg h,ay h]
  exact UC a l w h
structure Bx (w:World)(B:Nat)(u v:Int):Prop where
 c0:w.cell? ⟨B,0,none⟩=some (.int .i64 u)
 c1:w.cell? ⟨B,1,none⟩=some (.int .i64 v)
 f0:w.frozen? ⟨B,0,none⟩=false
 f1:w.frozen? ⟨B,1,none⟩=false
theorem Bx.lt {w:World}{B:Nat}{u v:Int}(h:Bx w B u v):B<w.heap.size:=World.block_lt_of_cell? _ _ h.c0
theorem Bx.step {w w':World}{B:Nat}{u v:Int}(h:Bx w B u v)(hb:Below w.heap.size w w'):Bx w' B u v:=
 ⟨(hb.cell (p:=⟨B,0,none⟩) h.lt).trans h.c0,(hb.cell (p:=⟨B,1,none⟩) h.lt).trans h.c1,(hb.frozen (p:=⟨B,0,none⟩) h.lt).trans h.f0,(hb.frozen (p:=⟨B,1,none⟩) h.lt).trans h.f1⟩
theorem Bx.new (w:World)(t:Nat)(u v:Int):Bx (w.alloc (.cells #[.int .i64 u,.int .i64 v] t)) w.heap.size u v:=⟨by simp,by simp,by simp,by simp⟩
theorem Bx.put {w:World}{B:Nat}{u v:Int}(h:Bx w B u v)(x y:Int):(w.setCell ⟨B,0,none⟩ (.int .i64 x)).cell? ⟨B,0,none⟩=some (.int .i64 x)/\((w.setCell ⟨B,0,none⟩ (.int .i64 x)).setCell ⟨B,1,none⟩ (.int .i64 y)).cell? ⟨B,1,none⟩=some (.int .i64 y):=by
 obtain⟨c0,c1,f0,f1⟩:=h
 exact⟨by go_simp,by go_simp⟩
end Go.Proofs.YtmghmpclmphccaaGreatDoor
namespace Go.Proofs.YtmghmpclmphccaaGreatDoor.Au
open Go.RowKit
theorem agF (a l:Int)(w:World)(h:Bur.fault a l≠0) :
  Calls Tryz.prog 121 #[pfx a l] w fun e w'=>e=.returned (.tuple #[pfx 0 0,aC (Bur.fault a l)])/\Below w.heap.size w w':=by
 go_enter Tryz.func121,Tryz.ntmps121
 go_wp2_with (go_at_call 36;refine (qm _ _ _ h).mono ?_;rintro e w' ⟨rfl,hc,hf,hs,hb⟩)
 exact bodyPost_ret (v:=.tuple #[pfx 0 0,aC (Bur.fault a l)]) (by simp[results,Tryz.results121,go_sem,hc]) rfl ⟨rfl,((ak (aj (aj (aj (ah _) _) _) _) hb).setCell (by simp) _).setCell (by simp) _⟩
theorem adb (a:Int)(w:World)(h:Bur.fault a 0=0) :
  Calls Tryz.prog 121 #[pfx a 0] w fun e w'=>e=.returned (.tuple #[pfx 0 0,aC 4])/\Below w.heap.size w w':=by
 go_enter Tryz.func121,Tryz.ntmps121
 go_wp2_with (go_at_call 36;refine (fK _ _ _ h).mono ?_;rintro e w' ⟨rfl,hc,hf,hs,hb⟩)
 exact bodyPost_ret (v:=.tuple #[pfx 0 0,aC 4]) (by simp[results,Tryz.results121,go_sem,hc]) rfl ⟨rfl,((ak (aj (aj (aj (ah _) _) _) _) hb).setCell (by simp) _).setCell (by simp) _⟩
theorem ahR (a l:Int)(w:World)(h:Bur.fault a l=0)(hl:0<l) :
  Calls Tryz.prog 121 #[pfx a l] w fun e w'=>e=.returned (.tuple #[pfx (a - a % Bur.sz (l - 1)) (l - 1),.nilIface])/\Below w.heap.size w w':=by
 obtain⟨h0,h1,a0,a1,hz⟩:=Bur.bn h
 have ha:=Bur.qV a0 a1
 go_enter Tryz.func121,Tryz.ntmps121
 go_wp2_with (first|(go_at_call 36;refine (fK _ _ _ h).mono ?_;rintro e w' ⟨rfl,hc,hf,hs,hb⟩)|(go_at_call 37;refine (cut _ _ _ ha (by omega) (by omega)).mono ?_;rintro e w2 ⟨rfl,rfl⟩))
 exact bodyPost_ret (v:=.tuple #[pfx (a - a % Bur.sz (l - 1)) (l - 1),.nilIface]) (by simp[results,Tryz.results121,go_sem,hc,hs]) rfl ⟨rfl,aj (((ak (aj (aj (aj (ah _) _) _) _) hb).setCell (by simp) _).setCell (by simp) _) _⟩
theorem ae0 (a l:Int)(w:World):Calls Tryz.prog 121 #[pfx a l] w fun e w'=>e=.returned (.tuple #[pfx (Bur.upA a l) (Bur.upL a l),ev (Bur.upF a l)])/\Below w.heap.size w w':=by
 by_cases h:Bur.fault a l=0
 ·by_cases h2:l=0
  ·subst h2
   have e:Bur.upF a 0=4:=by simp[Bur.upF,h]
   simp only [Bur.upA,Bur.upL,e]
   exact adb a w h
  ·have e:Bur.upF a l=0:=by simp[Bur.upF,h,h2]
   have:=(Bur.bn h).1
   simp only [Bur.upA,Bur.upL,e,if_true]
   exact ahR a l w h (by omega)
 ·have e:Bur.upF a l=Bur.fault a l:=by simp[Bur.upF,h]
  simp only [Bur.upA,Bur.upL,e,if_neg h,ay h]
  exact agF a l w h
theorem abp (w:World):Calls Tryz.prog 215 #[.int .u64 0] w fun e w'=>e=.returned (.int .i64 0)/\w'=w:=by
 go_enter Tryz.func215,Tryz.ntmps215
 go_wp2
 go_ret
 exact⟨Ug (by rw[show Lib.len8 0=0 from by kernel_rfl,IntWalk.wrap64_in 0 (by omega),IntWalk.wrap64_in 0 (by omega)]),rfl⟩
theorem ag0 (w:World):Calls Tryz.prog 166 #[.int .u64 0] w fun e w'=>e=.returned (.int .i64 0)/\w'=w:=by
 go_enter Tryz.func166,Tryz.ntmps166
 go_wp2_with (go_at_call 215;refine (abp _).mono ?_;rintro e w' ⟨rfl,rfl⟩)
 go_ret
 exact⟨rfl,rfl⟩
theorem both_ok (a:Int)(w:World)(ha:Bur.isA a=true) :
  Calls Tryz.prog 120 #[.int .i64 a,.int .i64 a] w fun e w'=>e=.returned (.tuple #[pfx a 32,.nilIface])/\Below w.heap.size w w':=by
 obtain⟨a0,a1⟩:=Bur.eX ha
 have hx:bits .xor .i64 a a=0:=by
  obtain⟨A,rfl⟩:=Int.eq_ofNat_of_zero_le a0
  have:=Bur.O5 A A (by omega) (by omega)
  rw[Nat.xor_self] at this
  exact this
 have hc:Hid (a - a % Bur.sz 32=a):=by show _=_;rw[Bur.Yu];omega
 go_enter Tryz.func120,Tryz.ntmps120
 go_wp2_with (first|(go_at_call 66;refine (dR _ _).mono ?_;rintro e w' ⟨rfl,rfl⟩)|(go_at_call 166;refine (ag0 _).mono ?_;rintro e w' ⟨rfl,rfl⟩)|(go_at_call 37;refine (cut _ _ _ ha (by omega) (by omega)).mono ?_;rintro e w' ⟨rfl,rfl⟩))
 rw[hc.out]
 exact bodyPost_ret (v:=.tuple #[pfx a 32,.nilIface]) (by simp[results,Tryz.results120,go_sem]) rfl ⟨rfl,aj (aj (ah _) _) _⟩
