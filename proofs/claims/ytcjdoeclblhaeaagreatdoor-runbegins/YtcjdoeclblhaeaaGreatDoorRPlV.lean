/- -/
import Derived.Test.YtcjdoeclblhaeaaGreatDoorRPlR
import Derived.Test.YtcjdoeclblhaeaaGreatDoorRMpHeld
import Derived.Test.YtcjdoeclblhaeaaGreatDoorRDcA
import Derived.Test.YtcjdoeclblhaeaaGreatDoorRVsMath
import Derived.Test.YtcjdoeclblhaeaaGreatDoorRAdCutMath
import Derived.Test.YtcjdoeclblhaeaaGreatDoorRVsBase
import Derived.Test.YtcjdoeclblhaeaaGreatDoorRPkA
import Derived.Deep.AppendLies
set_option maxHeartbeats 8000000
set_option maxRecDepth 100000
namespace Go.Proofs.YtcjdoeclblhaeaaGreatDoor.Pa
open Go.RowKit Go.Maps Vs
section
variable {T:Td} {w:World} {F:Nat->Prop} {B:Nat} {d:Dk}
theorem plDo1 (V:DFace T) (c:Cl) (i:Int) (h:Ds T w F B d) (ok:OkD d) (sm:Sm d) (hcl:clF c=0) :
  Calls Tryz.prog 117 #[wkV B c i] w fun e w'=>DoPost T F w B (runD (pWork c) d i) (runA (pWork c) d i) (runF (pWork c) d i) e w':=by
 obtain⟨_,_,hnm⟩:=clF_in hcl
 have hn:c.nm.size<=1000:=by omega
 obtain⟨W,hW⟩:∃ W,W=(w.alloc (.cells (wkA B c i) 188)).alloc (.cells #[.int .i64 0,.int .i64 0,.int .i64 0,.string ⟨#[]⟩,.slice none 0 0] 111):=⟨_,rfl⟩
 have bW:Below w.heap.size w W:=by rw[hW];exact below_al (below_al (below_self w) _) _
 obtain⟨bb,hbb⟩:∃ bb,bb=w.heap.size:=⟨_,rfl⟩
 have wk:Wk W bb B c i:=by rw[hW,hbb];exact (Wk.new w B c i 188).step (below_al (below_self _) _)
 have ab:Ab W (bb+1) (.int .i64 0) (.int .i64 0) (.int .i64 0) (.string ⟨#[]⟩) (.slice none 0 0):=by
  have:=Ab.new (w.alloc (.cells (wkA B c i) 188)) (.int .i64 0) (.int .i64 0) (.int .i64 0) (.string ⟨#[]⟩) (.slice none 0 0) 111
  rw[World.size_alloc] at this
  rw[hW,hbb];exact this
 have hW1:=h.step V bW
 have KK:=fun W'=>plNetKey c.nm W' hn
 rw[show (⟨(Bur.netK c.nm.data.toList).toArray⟩:ByteArray)=kN c.nm from rfl] at KK
 have KF:=fun w3 (b3:Below W.heap.size W w3)=>plFind V c i (kN c.nm) (hW1.step V b3) ok sm (by rw[kN_size];unfold maxLen;omega)
 have hbx:¬ F bb:=fun q=>by have:=h.lt _ q;omega
 have hby:¬ F (bb+1):=fun q=>by have:=h.lt _ q;omega
 have rel:∀ w3 w4,Below W.heap.size W w3->Dj T F w3 w4 B (dgD d i (kN c.nm))->Wk w4 bb B c i -> ∃ F4,Ds T w4 F4 B (dgD d i (kN c.nm))/\(∀ j,F4 j->Nw F w w4 j)/\But F w w4/\Wk w4 bb B c i/\Ab w4 (bb+1) (.int .i64 0) (.int .i64 0) (.int .i64 0) (.string ⟨#[]⟩) (.slice none 0 0) /\ ¬ F4 (bb+1):=fun w3 w4 b3 hj4 wk4=>by
  obtain⟨F4,h4,hn4⟩:=hj4.ex
  have s1:=bW.size
  have s3:=b3.size
  have s4:=hj4.bt.size
  have l1:=ab.lt
  have e1:But F w w3:=.below (below_via bW b3)
  refine⟨F4,h4,fun j hj=>?_,e1.trans hj4.bt,wk4,(ab.step b3).but hj4.bt hby,fun q=>?_⟩
  ·rcases hn4 j hj with g|g
   ·exact .inl g
   ·exact .inr ⟨by have:=g.1;omega,g.2⟩
  ·rcases hn4 _ q with g|g
   ·exact hby g
   ·have:=g.1;omega
 have okg:=ok.dg i (kN c.nm)
 have smg:=Sm.dg sm ok i (kN c.nm)
 rw[pWork_is]
 rcases find_cases (d:=d) i (kN c.nm) with ⟨f1,f2,f3,f4⟩|⟨f1,f2,f3,f4⟩|⟨f0,f1,f2,f3⟩
 ·obtain⟨a1,a2,a3⟩:=asks_no (d:=d) (i:=i) (k:=kN c.nm) (K:=fun _ is=>pBody c is) f1
  rw[a1,a2,a3]
  rw[f2,f3,ev_0] at KF
  obtain⟨SS,hSS⟩:∃ SS,Hid (SS=fnS d i (kN c.nm)):=⟨_,rfl⟩
  rw[<- hSS.out] at KF
  have REL:Hid _:=rel
  clear rel a1 a2 a3 f1 f2 f3 f4 hW1
  go_enter Tryz.func117,Tryz.ntmps117
  go_upto_region 1 with fail
  rw[<- hW]
  rw[<- hbb]
  have HBB:Hid (bb=w.heap.size):=hbb
  clear hW bW hbb
  go_cut [3,4,5] from 6 to 15 (fun s3 s4 s5 wy=>∃ F4,s3=.nilIface/\s4=.string SS/\s5=.bool false/\Ds T wy F4 B (dgD d i (kN c.nm))/\(∀ j,F4 j->Nw F w wy j)/\But F w wy/\Wk wy bb B c i/\Ab wy (bb+1) (.int .i64 0) (.int .i64 0) (.int .i64 0) (.string ⟨#[]⟩) (.slice none 0 0) /\ ¬ F4 (bb+1))
  case first=>
   obtain⟨k0,k1,k2,k3,k4,k5,k6,k7,k8⟩:=id wk
   go_region_held3 (fun wy=>wy.cell? ⟨bb,0,none⟩=some (.pointer (some ⟨B,0,none⟩))/\wy.cell? ⟨bb,1,none⟩=some (.int .i64 c.what)/\wy.cell? ⟨bb,2,none⟩=some (.string c.nm)/\wy.cell? ⟨bb,3,none⟩=some (.int .i64 c.p.1)/\wy.cell? ⟨bb,4,none⟩=some (.int .i64 c.p.2)/\wy.cell? ⟨bb,5,none⟩=some (.int .i64 c.len)/\wy.cell? ⟨bb,6,none⟩=some (.int .i64 c.ad)/\wy.cell? ⟨bb,7,none⟩=some (.string c.ow)/\wy.cell? ⟨bb,8,none⟩=some (.int .i64 i))
    (first|exact⟨wk4.c0,wk4.c1,wk4.c2,wk4.c3,wk4.c4,wk4.c5,wk4.c6,wk4.c7,wk4.c8⟩|exact⟨wk3.c0,wk3.c1,wk3.c2,wk3.c3,wk3.c4,wk3.c5,wk3.c6,wk3.c7,wk3.c8⟩|exact⟨k0,k1,k2,k3,k4,k5,k6,k7,k8⟩)
    (first
     | (go_at_call 68;refine (KK _).mono ?_;clear KK;rintro e w3 ⟨rfl,hw3⟩;have wk3:Wk w3 bb B c i:=(by rw[hw3];exact wk.step (below_self W).drew);have b3:Below W.heap.size W w3:=(by rw[hw3];exact (below_self W).drew);have KF1:=KF w3 b3;clear hw3)
     | (go_at_call 163;refine KF1.mono ?_;clear KF1;rintro e w4 ⟨rfl,hj4⟩;have wk4:Wk w4 bb B c i:=wk3.but hj4.bt hbx))
   all_goals (
    go_wp2_with fail
    go_meet)
   case rel=>
    obtain⟨F4,hh⟩:=REL.out w3 w4 b3 hj4 wk4
    exact⟨F4,rfl,rfl,rfl,hh⟩
  case rest=>
   obtain⟨F4,rfl,rfl,rfl,h4,hN4,hB4,wk4,ab4,n4⟩:=hcut
   obtain rfl:=HBB.out
   refine ‹∀ (a:Act) (w:World),Code.wp _ _ _ a w->_› _ _ ?_
   exact plDo2 V c i false h.en h4 okg smg hcl wk4 ab4 n4 hN4 hB4
 ·obtain⟨a1,a2,a3⟩:=asks_yes (d:=d) (i:=i) (k:=kN c.nm) (K:=fun _ is=>pBody c is) f1
  rw[a1,a2,a3]
  rw[f2,f3,ev_0] at KF
  obtain⟨SS,hSS⟩:∃ SS,Hid (SS=fnS d i (kN c.nm)):=⟨_,rfl⟩
  rw[<- hSS.out] at KF
  have REL:Hid _:=rel
  clear rel a1 a2 a3 f1 f2 f3 f4 hW1
  go_enter Tryz.func117,Tryz.ntmps117
  go_upto_region 1 with fail
  rw[<- hW]
  rw[<- hbb]
  have HBB:Hid (bb=w.heap.size):=hbb
  clear hW bW hbb
  go_cut [3,4,5] from 6 to 15 (fun s3 s4 s5 wy=>∃ F4,s3=.nilIface/\s4=.string SS/\s5=.bool true/\Ds T wy F4 B (dgD d i (kN c.nm))/\(∀ j,F4 j->Nw F w wy j)/\But F w wy/\Wk wy bb B c i/\Ab wy (bb+1) (.int .i64 0) (.int .i64 0) (.int .i64 0) (.string ⟨#[]⟩) (.slice none 0 0) /\ ¬ F4 (bb+1))
  case first=>
   obtain⟨k0,k1,k2,k3,k4,k5,k6,k7,k8⟩:=id wk
   go_region_held3 (fun wy=>wy.cell? ⟨bb,0,none⟩=some (.pointer (some ⟨B,0,none⟩))/\wy.cell? ⟨bb,1,none⟩=some (.int .i64 c.what)/\wy.cell? ⟨bb,2,none⟩=some (.string c.nm)/\wy.cell? ⟨bb,3,none⟩=some (.int .i64 c.p.1)/\wy.cell? ⟨bb,4,none⟩=some (.int .i64 c.p.2)/\wy.cell? ⟨bb,5,none⟩=some (.int .i64 c.len)/\wy.cell? ⟨bb,6,none⟩=some (.int .i64 c.ad)/\wy.cell? ⟨bb,7,none⟩=some (.string c.ow)/\wy.cell? ⟨bb,8,none⟩=some (.int .i64 i))
    (first|exact⟨wk4.c0,wk4.c1,wk4.c2,wk4.c3,wk4.c4,wk4.c5,wk4.c6,wk4.c7,wk4.c8⟩|exact⟨wk3.c0,wk3.c1,wk3.c2,wk3.c3,wk3.c4,wk3.c5,wk3.c6,wk3.c7,wk3.c8⟩|exact⟨k0,k1,k2,k3,k4,k5,k6,k7,k8⟩)
    (first
     | (go_at_call 68;refine (KK _).mono ?_;clear KK;rintro e w3 ⟨rfl,hw3⟩;have wk3:Wk w3 bb B c i:=(by rw[hw3];exact wk.step (below_self W).drew);have b3:Below W.heap.size W w3:=(by rw[hw3];exact (below_self W).drew);have KF1:=KF w3 b3;clear hw3)
     | (go_at_call 163;refine KF1.mono ?_;clear KF1;rintro e w4 ⟨rfl,hj4⟩;have wk4:Wk w4 bb B c i:=wk3.but hj4.bt hbx))
   all_goals (
    go_wp2_with fail
    go_meet)
   case rel=>
    obtain⟨F4,hh⟩:=REL.out w3 w4 b3 hj4 wk4
    exact⟨F4,rfl,rfl,rfl,hh⟩
  case rest=>
   obtain⟨F4,rfl,rfl,rfl,h4,hN4,hB4,wk4,ab4,n4⟩:=hcut
   obtain rfl:=HBB.out
   refine ‹∀ (a:Act) (w:World),Code.wp _ _ _ a w->_› _ _ ?_
   exact plDo2 V c i true h.en h4 okg smg hcl wk4 ab4 n4 hN4 hB4
 ·obtain⟨a1,a2,a3⟩:=asks_err (d:=d) (i:=i) (k:=kN c.nm) (K:=fun _ is=>pBody c is) f0 f1
  rw[a1,a2,a3]
  rw[f2,f3,ev_ne f1] at KF
  have hEv:Hid (ev (dgF d i (kN c.nm))=errN (dgF d i (kN c.nm))):=ev_ne f1
  obtain⟨SS,hSS⟩:∃ SS,Hid (SS=fnS d i (kN c.nm)):=⟨_,rfl⟩
  rw[<- hSS.out] at KF
  have REL:Hid _:=rel
  clear rel a1 a2 a3 f0 f1 f2 f3 hW1
  go_enter Tryz.func117,Tryz.ntmps117
  go_upto_region 1 with fail
  rw[<- hW]
  rw[<- hbb]
  have HBB:Hid (bb=w.heap.size):=hbb
  clear hW bW hbb
  go_cut [3,4,5] from 6 to 15 (fun s3 s4 s5 wy=>∃ F4,s3=errN (dgF d i (kN c.nm))/\s4=.string SS/\s5=.bool false/\Ds T wy F4 B (dgD d i (kN c.nm))/\(∀ j,F4 j->Nw F w wy j)/\But F w wy/\Wk wy bb B c i/\Ab wy (bb+1) (.int .i64 0) (.int .i64 0) (.int .i64 0) (.string ⟨#[]⟩) (.slice none 0 0) /\ ¬ F4 (bb+1))
  case first=>
   obtain⟨k0,k1,k2,k3,k4,k5,k6,k7,k8⟩:=id wk
   go_region_held3 (fun wy=>wy.cell? ⟨bb,0,none⟩=some (.pointer (some ⟨B,0,none⟩))/\wy.cell? ⟨bb,1,none⟩=some (.int .i64 c.what)/\wy.cell? ⟨bb,2,none⟩=some (.string c.nm)/\wy.cell? ⟨bb,3,none⟩=some (.int .i64 c.p.1)/\wy.cell? ⟨bb,4,none⟩=some (.int .i64 c.p.2)/\wy.cell? ⟨bb,5,none⟩=some (.int .i64 c.len)/\wy.cell? ⟨bb,6,none⟩=some (.int .i64 c.ad)/\wy.cell? ⟨bb,7,none⟩=some (.string c.ow)/\wy.cell? ⟨bb,8,none⟩=some (.int .i64 i))
    (first|exact⟨wk4.c0,wk4.c1,wk4.c2,wk4.c3,wk4.c4,wk4.c5,wk4.c6,wk4.c7,wk4.c8⟩|exact⟨wk3.c0,wk3.c1,wk3.c2,wk3.c3,wk3.c4,wk3.c5,wk3.c6,wk3.c7,wk3.c8⟩|exact⟨k0,k1,k2,k3,k4,k5,k6,k7,k8⟩)
    (first
     | (go_at_call 68;refine (KK _).mono ?_;clear KK;rintro e w3 ⟨rfl,hw3⟩;have wk3:Wk w3 bb B c i:=(by rw[hw3];exact wk.step (below_self W).drew);have b3:Below W.heap.size W w3:=(by rw[hw3];exact (below_self W).drew);have KF1:=KF w3 b3;clear hw3)
     | (go_at_call 163;refine KF1.mono ?_;clear KF1;rintro e w4 ⟨rfl,hj4⟩;have wk4:Wk w4 bb B c i:=wk3.but hj4.bt hbx))
   all_goals (
    go_wp2_with fail
    go_meet)
   case rel=>
    obtain⟨F4,hh⟩:=REL.out w3 w4 b3 hj4 wk4
    exact⟨F4,rfl,rfl,rfl,hh⟩
  case rest=>
   obtain⟨F4,rfl,rfl,rfl,h4,hN4,hB4,wk4,ab4,n4⟩:=hcut
   have hbb:=HBB.out
   obtain⟨a0,a1,a2,a3,a4,af0,af1,af2,af3,af4⟩:=id ab4
   have FIN:=fun {wf:World} (hb:But (fun j=>j=bb+1) wc wf)=>do_fin (F:=F) (F1:=F4) (w:=w) (wx:=wc) (ab:=bb+1) V h.en hB4 hN4 h4 (fun _ hj=>.inl hj) (But.refl _ _) (by omega) ab4.lt n4 hb
   have FH:Hid _:=@FIN
   clear FIN hbb
   go_wp2_with fail
   exact bodyPost_ret (v:=.tuple #[anV an0 (.slice none 0 0),errN (dgF d i (kN c.nm))]) (by simp[results,Tryz.results117,go_sem,an0,(ab4.all (.int .i64 0) (.int .i64 0) (.int .i64 0) (.string ⟨#[]⟩) (.slice none 0 0)).c0,(ab4.all (.int .i64 0) (.int .i64 0) (.int .i64 0) (.string ⟨#[]⟩) (.slice none 0 0)).c1,(ab4.all (.int .i64 0) (.int .i64 0) (.int .i64 0) (.string ⟨#[]⟩) (.slice none 0 0)).c2,(ab4.all (.int .i64 0) (.int .i64 0) (.int .i64 0) (.string ⟨#[]⟩) (.slice none 0 0)).c3,(ab4.all (.int .i64 0) (.int .i64 0) (.int .i64 0) (.string ⟨#[]⟩) (.slice none 0 0)).c4];rfl) rfl ⟨.slice none 0 0,by rw[hEv.out],F4,(FH.out (but_5 _ (But.refl _ _) _ _ _ _ _)).1,(FH.out (but_5 _ (But.refl _ _) _ _ _ _ _)).2.1,(FH.out (but_5 _ (But.refl _ _) _ _ _ _ _)).2.2,World.ownsRow_nil _ _ _ _,fun j hj=>by cases hj⟩
theorem plDo (V:DFace T) (c:Cl) (i:Int) (h:Ds T w F B d) (ok:OkD d) (sm:Sm d) :
  Calls Tryz.prog 83 #[.pointer (some ⟨B,0,none⟩),.int .i64 i,clV c] w fun e w'=>DoPost T F w B (runD (doP c) d i) (runA (doP c) d i) (runF (doP c) d i) e w':=by
 obtain⟨W,hW⟩:∃ W,W=(w.alloc (.cells (clA c) 107)).alloc (.cells #[.int .i64 0,.int .i64 0,.int .i64 0,.string ⟨#[]⟩,.slice none 0 0] 111):=⟨_,rfl⟩
 have bW:Below w.heap.size w W:=by rw[hW];exact below_al (below_al (below_self w) _) _
 obtain⟨bb,hbb⟩:∃ bb,bb=w.heap.size:=⟨_,rfl⟩
 have q:∀ j u,(clA c)[j]? = some u->W.cell? ⟨bb,j,none⟩=some u:=fun j u hj=>by
  rw[hW,hbb]
  exact ((below_al (below_self (w.alloc (.cells (clA c) 107))) _).cell (p:=⟨w.heap.size,j,none⟩) (by simp)).trans (by simpa using hj)
 have q0:=q 0 _ rfl
 have q1:=q 1 _ rfl
 have q2:=q 2 _ rfl
 have q3:=q 3 _ rfl
 have q4:=q 4 _ rfl
 have q5:=q 5 _ rfl
 have q6:=q 6 _ rfl
 clear q
 have ab:Ab W (bb+1) (.int .i64 0) (.int .i64 0) (.int .i64 0) (.string ⟨#[]⟩) (.slice none 0 0):=by
  have:=Ab.new (w.alloc (.cells (clA c) 107)) (.int .i64 0) (.int .i64 0) (.int .i64 0) (.string ⟨#[]⟩) (.slice none 0 0) 111
  rw[World.size_alloc] at this
  rw[hW,hbb];exact this
 have hW1:=h.step V bW
 have KC:=plCheck c W
 have hby:¬ F (bb+1):=fun q=>by have:=h.lt _ q;omega
 have l1:=ab.lt
 have FIN:=fun {w1 w5 wf:World} {F5:Nat->Prop} {d':Dk} (b1:Below W.heap.size W w1) (h5:Ds T w5 F5 B d') (hn5:∀ j,F5 j->Nw F w1 w5 j) (b5:But F w1 w5) (hb:But (fun j=>j=bb+1) w5 wf)=>do_fin (F:=F) (F1:=F) (w:=w) (wx:=w1) (ab:=bb+1) V h.en (.below (below_via bW b1)) (fun _ hj=>.inl hj) h5 hn5 b5 (by omega) (Nat.lt_of_lt_of_le l1 b1.size) hby hb
 have FH:Hid _:=@FIN
 have HS:Hid (w.heap.size<=W.heap.size/\bb+1<W.heap.size):=⟨bW.size,l1⟩
 clear FIN
 by_cases hcl:clF c=0
 ·have K1:=fun w1 (b1:Below W.heap.size W w1)=>plDo1 V c i (hW1.step V b1) ok sm hcl
  rw[show doP c=pWork c from if_pos hcl]
  rw[hcl,ev_0] at KC
  obtain⟨E,hE⟩:∃ E,Hid (E=ev (runF (pWork c) d i)):=⟨_,rfl⟩
  generalize runA (pWork c) d i=a at K1 ⊢
  generalize runD (pWork c) d i=d' at K1 ⊢
  unfold DoPost at K1 ⊢
  rw[<- hE.out] at K1 ⊢
  clear hcl hW1 hby l1 bW
  go_enter Tryz.func83,Tryz.ntmps83
  go_wp2_with (first
   | (go_at_call 116;rw[<- hW];refine KC.mono ?_;clear KC;rintro e w1 ⟨rfl,b1⟩;have K2:=K1 w1 b1;have ab1:=ab.step b1;have m0:=(b1.cell (World.block_lt_of_cell? _ _ q0)).trans q0;have m1:=(b1.cell (World.block_lt_of_cell? _ _ q1)).trans q1;have m2:=(b1.cell (World.block_lt_of_cell? _ _ q2)).trans q2;have m3:=(b1.cell (World.block_lt_of_cell? _ _ q3)).trans q3;have m4:=(b1.cell (World.block_lt_of_cell? _ _ q4)).trans q4;have m5:=(b1.cell (World.block_lt_of_cell? _ _ q5)).trans q5;have m6:=(b1.cell (World.block_lt_of_cell? _ _ q6)).trans q6;rw[hbb] at m0 m1 m2 m3 m4 m5 m6)
   | (go_at_call 117;refine K2.mono ?_;clear K2;rintro e w2 ⟨u,rfl,F5,h5,hn5,b5,row5,sep5⟩;obtain⟨pu,cu,rfl⟩:=own_form row5;have ab5:=ab1.but b5 (fun q=>by have:=h.lt _ q;omega);obtain⟨a0,a1,a2,a3,a4,af0,af1,af2,af3,af4⟩:=id ab5;rw[hbb] at a0 a1 a2 a3 a4 af0 af1 af2 af3 af4))
  subst hbb
  exact bodyPost_ret (v:=.tuple #[anV a (.slice pu a.l.length cu),E]) (by simp[results,Tryz.results83,go_sem,(ab5.all (.int .i64 a.p.1) (.int .i64 a.p.2) (.int .i64 a.ad) (.string a.ow) (.slice pu a.l.length cu)).c0,(ab5.all (.int .i64 a.p.1) (.int .i64 a.p.2) (.int .i64 a.ad) (.string a.ow) (.slice pu a.l.length cu)).c1,(ab5.all (.int .i64 a.p.1) (.int .i64 a.p.2) (.int .i64 a.ad) (.string a.ow) (.slice pu a.l.length cu)).c2,(ab5.all (.int .i64 a.p.1) (.int .i64 a.p.2) (.int .i64 a.ad) (.string a.ow) (.slice pu a.l.length cu)).c3,(ab5.all (.int .i64 a.p.1) (.int .i64 a.p.2) (.int .i64 a.ad) (.string a.ow) (.slice pu a.l.length cu)).c4]) rfl ⟨.slice pu a.l.length cu,rfl,F5,(FH.out b1 h5 hn5 b5 (but_5 _ (But.refl _ _) _ _ _ _ _)).1,(FH.out b1 h5 hn5 b5 (but_5 _ (But.refl _ _) _ _ _ _ _)).2.1,(FH.out b1 h5 hn5 b5 (but_5 _ (But.refl _ _) _ _ _ _ _)).2.2,ownMono (by have:=b1.size;have:=HS.out.1;omega) (row_but row5 (but_5 _ (But.refl _ _) _ _ _ _ _) (fun j hj q=>by have:=b1.size;have:=HS.out.2;omega)),sep5⟩
 ·have eP:doP c=err (clF c):=if_neg hcl
  rw[eP]
  have E1:Hid (ev (runF (err (clF c)) d i)=errN (clF c)):=ev_ne hcl
  rw[ev_ne hcl] at KC
  generalize hG:clF c=G at KC E1
  clear hG eP hcl l1 bW
  go_enter Tryz.func83,Tryz.ntmps83
  go_wp2_with (go_at_call 116;rw[<- hW];refine KC.mono ?_;clear KC;rintro e w1 ⟨rfl,b1⟩;have ab1:=ab.step b1;obtain⟨a0,a1,a2,a3,a4,af0,af1,af2,af3,af4⟩:=id ab1;rw[hbb] at a0 a1 a2 a3 a4 af0 af1 af2 af3 af4;have h1:=hW1.step V b1)
  subst hbb
  exact bodyPost_ret (v:=.tuple #[anV an0 (.slice none 0 0),errN G]) (by simp[results,Tryz.results83,go_sem,an0,(ab1.all (.int .i64 0) (.int .i64 0) (.int .i64 0) (.string ⟨#[]⟩) (.slice none 0 0)).c0,(ab1.all (.int .i64 0) (.int .i64 0) (.int .i64 0) (.string ⟨#[]⟩) (.slice none 0 0)).c1,(ab1.all (.int .i64 0) (.int .i64 0) (.int .i64 0) (.string ⟨#[]⟩) (.slice none 0 0)).c2,(ab1.all (.int .i64 0) (.int .i64 0) (.int .i64 0) (.string ⟨#[]⟩) (.slice none 0 0)).c3,(ab1.all (.int .i64 0) (.int .i64 0) (.int .i64 0) (.string ⟨#[]⟩) (.slice none 0 0)).c4];rfl) rfl ⟨.slice none 0 0,by rw[E1.out];rfl,F,(FH.out b1 h1 (fun _ hj=>.inl hj) (But.refl _ _) (but_5 _ (But.refl _ _) _ _ _ _ _)).1,(FH.out b1 h1 (fun _ hj=>.inl hj) (But.refl _ _) (but_5 _ (But.refl _ _) _ _ _ _ _)).2.1,(FH.out b1 h1 (fun _ hj=>.inl hj) (But.refl _ _) (but_5 _ (But.refl _ _) _ _ _ _ _)).2.2,World.ownsRow_nil _ _ _ _,fun j hj=>by cases hj⟩
end
end Go.Proofs.YtcjdoeclblhaeaaGreatDoor.Pa
namespace Go.Proofs.YtcjdoeclblhaeaaGreatDoor.Pa
open Go.RowKit Vs
def Nc:Pg->Prop
 | .ret _ _=>True
 | _=>False
def Gd:Pg->Prop
 | .ret _ _=>True
 | .get _ K=>∀ v f,Gd (K v f)
 | .rng lo _ K=>lo.size<=1000000 /\ ∀ l f,Gd (K l f)
 | .chg c K=>okc c /\ ∀ f,Nc (K f)
theorem nc_run {g:Pg} (h:Nc g) (d:Dk) (i:Int):runD g d i=d:=by
 cases g with
 | ret a f=>rfl
 | get k K=>exact h.elim
 | rng lo hi K=>exact h.elim
 | chg c K=>exact h.elim
theorem spz_set {d:Dk} (h:Spz d) {o':Ox} (ho:∀ s∈o'.spans,s.1.size<9223372036854775807):Spz (opSet d o'):=fun q hq=>by
 obtain⟨y,hy,rfl⟩:=List.mem_map.1 hq
 split
 ·exact ho
 ·exact h y hy
theorem spz_dg {d:Dk} (h:Spz d) (i:Int) (k:ByteArray):Spz (dgD d i k):=by
 unfold dgD
 cases e:opI d i with
 | none=>exact h
 | some o=>
  simp only
  split
  ·split
   ·exact h
   ·exact spz_set h (h o (opI_some e).1)
  ·exact h
theorem spz_dr {d:Dk} (h:Spz d) (i:Int) (lo hi:ByteArray) (hl:lo.size<=1000000):Spz (drD d i lo hi):=by
 unfold drD
 cases e:opI d i with
 | none=>exact h
 | some o=>
  simp only
  split
  ·exact h
  ·refine spz_set h (fun s hs=>?_)
   rcases List.mem_append.1 hs with g|g
   ·exact h o (opI_some e).1 s g
   ·rw[List.mem_singleton.1 g];show lo.size<_;omega
theorem spz_dc {d:Dk} (h:Spz d) (i:Int) (c:Chg):Spz (dcD d i c):=by
 unfold dcD
 cases e:opI d i with
 | none=>exact h
 | some o=>
  simp only
  split
  ·split
   ·exact h
   ·exact spz_set h (h o (opI_some e).1)
  ·exact h
theorem run_good:∀ (g:Pg) (d:Dk) (i:Int),Gd g->OkD d->Spz d->OkD (runD g d i)/\wt (runD g d i)<=wt d+1/\(runD g d i).ids=d.ids/\Spz (runD g d i)
 | .ret _ _,d,_,_,ok,sz=>⟨ok,Nat.le_succ _,rfl,sz⟩
 | .get k K,d,i,h,ok,sz=>by
  obtain⟨a1,a2,a3,a4⟩:=run_good (K (dgS d i k) (dgF d i k)) (dgD d i k) i (h _ _) (ok.dg i k) (spz_dg sz i k)
  rw[(wt_dg ok i k).1] at a2
  rw[(wt_dg ok i k).2] at a3
  exact⟨a1,a2,a3,a4⟩
 | .rng lo hi K,d,i,h,ok,sz=>by
  obtain⟨a1,a2,a3,a4⟩:=run_good (K (drS d i lo hi) (drF d i)) (drD d i lo hi) i (h.2 _ _) (ok.dr i lo hi) (spz_dr sz i lo hi h.1)
  rw[(wt_dr ok i lo hi).1] at a2
  rw[(wt_dr ok i lo hi).2] at a3
  exact⟨a1,a2,a3,a4⟩
 | .chg c K,d,i,h,ok,sz=>by
  show OkD (runD (K (dcF d i c)) (dcD d i c) i)/\_
  have e:runD (.chg c K) d i=dcD d i c:=nc_run (h.2 _) _ _
  have e':runD (K (dcF d i c)) (dcD d i c) i=dcD d i c:=nc_run (h.2 _) _ _
  rw[e,e']
  exact⟨ok.dc i h.1,(wt_dc ok i c).1,(wt_dc ok i c).2.1,spz_dc sz i c⟩
theorem gd_err (f:Int):Gd (err f):=trivial
theorem gd_asks {k:ByteArray} {K:ByteArray->Bool->Pg} (h:∀ v b,Gd (K v b)):Gd (asks k K):=fun v f=>by
 show Gd (if f=4 then K ByteArray.empty false else if f=0 then K v true else err f)
 by_cases h4:f=4
 ·rw[if_pos h4];exact h _ _
 ·rw[if_neg h4]
  by_cases h5:f=0
  ·rw[if_pos h5];exact h _ _
  ·rw[if_neg h5];exact gd_err _
theorem loK_size (c:UInt8) (n:ByteArray):(loK c n).size=n.size+3:=by
 unfold loK
 rw[txt_size]
 have:n.data.toList.length=n.size:=Array.length_toList
 simp
theorem gd_allL {n:ByteArray} {K:List Lot->Pg} (hn:n.size<=1000) (h:∀ l,Gd (K l)):Gd (allL n K):=⟨by rw[loK_size];omega,fun l f=>by
 show Gd (if f=0 then K (lots l) else err f)
 by_cases h5:f=0
 ·rw[if_pos h5];exact h _
 ·rw[if_neg h5];exact gd_err _⟩
theorem gd_allA {n:ByteArray} {K:List Int->Pg} (hn:n.size<=1000) (h:∀ l,Gd (K l)):Gd (allA n K):=⟨by rw[loK_size];omega,fun l f=>by
 show Gd (if f=0 then K (plcd l) else err f)
 by_cases h5:f=0
 ·rw[if_pos h5];exact h _
 ·rw[if_neg h5];exact gd_err _⟩
theorem gd_puts {k v:ByteArray} {a:An}:Gd (puts k v a):=⟨fun h=>(by cases h),fun f=>by
 show Nc (if f=0 then .ret a 0 else err f)
 split <;> trivial⟩
theorem gd_drops {k:ByteArray}:Gd (drops k):=⟨fun _=>rfl,fun _=>trivial⟩
theorem gd_allW {c:Cl} {K:List Lot->Pg} (hn:c.nm.size<=1000) (h:∀ l,Gd (K l)):Gd (allW c K):=gd_allL hn (fun l=>by
 by_cases h5:c.p∈l.map Prod.fst
 ·rw[if_pos h5];exact h _
 ·rw[if_neg h5];exact gd_err _)
theorem gd_do (c:Cl):Gd (doP c):=by
 unfold doP
 by_cases hcl:clF c=0
 ·rw[if_pos hcl,pWork_is]
  have hn:c.nm.size<=1000:=by have:=(clF_in hcl).2.2;omega
  refine gd_asks (fun _ b=>?_)
  unfold pBody
  split
  ·cases b
   ·exact gd_puts
   ·exact gd_err _
  ·split
   ·exact gd_err _
   ·split
    ·refine gd_asks (fun _ b=>?_)
     cases b
     ·exact gd_puts
     ·exact gd_err _
    ·split
     ·refine gd_asks (fun _ b=>?_)
      cases b
      ·exact gd_err _
      ·rw[if_pos rfl]
       refine gd_allL hn (fun l=>gd_allA hn (fun u=>?_))
       split
       ·exact gd_err _
       ·exact gd_drops
     ·split
      ·refine gd_allL hn (fun l=>gd_asks (fun _ b=>?_))
       split
       ·exact gd_err _
       ·cases b
        ·exact gd_puts
        ·exact gd_err _
      ·split
       ·refine gd_asks (fun _ b=>?_)
        cases b
        ·exact gd_err _
        ·exact gd_drops
       ·split
        ·refine gd_allW hn (fun l=>?_)
         split
         ·split
          ·exact gd_err _
          ·exact gd_puts
         ·exact gd_err _
        ·split
         ·refine gd_allW hn (fun l=>gd_allA hn (fun u=>?_))
          split
          ·exact gd_puts
          ·exact gd_err _
         ·split
          ·exact gd_allL hn (fun l=>trivial)
          ·refine gd_asks (fun v b=>?_)
           cases b
           ·rw[if_neg (by decide)]
            refine gd_allL hn (fun l=>?_)
            cases (hav l c.ad).getLast? with
            | none=>exact gd_err _
            | some o=>trivial
           ·trivial
 ·rw[if_neg hcl];exact gd_err _
end Go.Proofs.YtcjdoeclblhaeaaGreatDoor.Pa
namespace Go.Proofs.YtcjdoeclblhaeaaGreatDoor.Pa
open Go.RowKit Go.Maps Vs
structure Hh (w:World) (H B M:Nat):Prop where
 c0:w.cell? ⟨H,0,none⟩=some (.pointer (some ⟨B,0,none⟩))
 c1:w.cell? ⟨H,1,none⟩=some (.map (some M))
theorem Hh.lt {w:World} {H B M:Nat} (h:Hh w H B M):H<w.heap.size:=World.block_lt_of_cell? _ _ h.c0
theorem Hh.but {E:Nat->Prop} {w w':World} {H B M:Nat} (h:Hh w H B M) (hb:But E w w') (hE:¬ E H):Hh w' H B M:=⟨(hb.cell (p:=⟨H,0,none⟩) h.lt hE).trans h.c0,(hb.cell (p:=⟨H,1,none⟩) h.lt hE).trans h.c1⟩
theorem Hh.step {w w':World} {H B M:Nat} (h:Hh w H B M) (hb:Below w.heap.size w w'):Hh w' H B M:=h.but (E:=fun _=>False) (.below hb) id
section
variable {T:Td} {w:World}
theorem hlNew (V:DFace T) (room:Int) (en:En w) (h0:0<=room) (h1:room<=100000) :
  Calls Tryz.prog 5 #[.int .i64 room] w fun e w'=>∃ H B M F,e=.returned (.tuple #[.pointer (some ⟨H,0,none⟩),.nilIface])/\Ds T w' F B (dk0 room)/\Hh w' H B M/\w'.ownsMap Tryz.prog 9 anyE M 0 (.map []) /\ ¬ F H /\ ¬ F M/\H≠M/\(∀ j,F j->w.heap.size<=j)/\w.heap.size<=H/\w.heap.size<=M/\Below w.heap.size w w':=by
 have hmm:=@run_makeMap Tryz.prog
 have K:=V.newOk w h0 h1
 have glt:∀ {j},Gl j->j<w.heap.size:=fun hj=>en.lt hj
 have GH:Hid _:=@glt
 clear glt
 go_enter Tryz.func5,Tryz.ntmps5
 go_wp2_with (go_at_call 11;refine K.mono ?_;clear K;rintro e w1 ⟨B,rfl,hT,hb1⟩)
 go_ret2
 have b2:=below_al (below_al (below_self w1) (.map #[] 0)) (.cells #[.pointer (some ⟨B,0,none⟩),.map (some w1.heap.size)] 45)
 have s1:=hb1.size
 refine⟨w1.heap.size+1,B,w1.heap.size,fun j=>w.heap.size<=j/\j<w1.heap.size,rfl,⟨V.step hT b2,fun j hj=>?_,fun j hj q=>?_,(en.step hb1).step b2⟩,⟨?_,?_⟩,(World.ownsMap_made w1 _ _ _).alloc _,fun q=>by have:=q.2;omega,fun q=>by have:=q.2;omega,by omega,fun j hj=>hj.1,by omega,s1,below_via hb1 b2⟩
 ·have:=b2.size
  have:=hj.2
  omega
 ·have:=GH.out q
  have:=hj.1
  omega
 ·go_simp
 ·go_simp
end
end Go.Proofs.YtcjdoeclblhaeaaGreatDoor.Pa
namespace Go.Proofs.YtcjdoeclblhaeaaGreatDoor.Pa
open Go.RowKit Go.Maps Vs
structure Cb (w:World) (b:Nat) (c:Cl):Prop where
 q0:w.cell? ⟨b,0,none⟩=some (.int .i64 c.what)
 q1:w.cell? ⟨b,1,none⟩=some (.string c.nm)
 q2:w.cell? ⟨b,2,none⟩=some (.int .i64 c.p.1)
 q3:w.cell? ⟨b,3,none⟩=some (.int .i64 c.p.2)
 q4:w.cell? ⟨b,4,none⟩=some (.int .i64 c.len)
 q5:w.cell? ⟨b,5,none⟩=some (.int .i64 c.ad)
 q6:w.cell? ⟨b,6,none⟩=some (.string c.ow)
theorem Cb.lt {w:World} {b:Nat} {c:Cl} (h:Cb w b c):b<w.heap.size:=World.block_lt_of_cell? _ _ h.q0
theorem Cb.new (w:World) (c:Cl) (t:Nat):Cb (w.alloc (.cells (clA c) t)) w.heap.size c:=⟨by simp,by simp,by simp,by simp,by simp,by simp,by simp⟩
theorem Cb.but {E:Nat->Prop} {w w':World} {b:Nat} {c:Cl} (h:Cb w b c) (hb:But E w w') (hE:¬ E b):Cb w' b c:=
 ⟨(hb.cell (p:=⟨b,0,none⟩) h.lt hE).trans h.q0,(hb.cell (p:=⟨b,1,none⟩) h.lt hE).trans h.q1,(hb.cell (p:=⟨b,2,none⟩) h.lt hE).trans h.q2,(hb.cell (p:=⟨b,3,none⟩) h.lt hE).trans h.q3,(hb.cell (p:=⟨b,4,none⟩) h.lt hE).trans h.q4,(hb.cell (p:=⟨b,5,none⟩) h.lt hE).trans h.q5,(hb.cell (p:=⟨b,6,none⟩) h.lt hE).trans h.q6⟩
theorem Cb.step {w w':World} {b:Nat} {c:Cl} (h:Cb w b c) (hb:Below w.heap.size w w'):Cb w' b c:=h.but (E:=fun _=>False) (.below hb) id
section
variable {T:Td} {w:World} {F:Nat->Prop} {B:Nat} {d:Dk}
end
end Go.Proofs.YtcjdoeclblhaeaaGreatDoor.Pa
namespace Go.Proofs.YtcjdoeclblhaeaaGreatDoor.Pa
open Go.RowKit Go.Maps Go.WideShapes Go.ChangeMaps Vs
abbrev Ses:=List (ByteArray×Int)
def sId:Ses->ByteArray->Option Int
 | [],_=>none
 | x :: r,k=>if k=x.1 then some x.2 else sId r k
def sDel:Ses->ByteArray->Ses
 | [],_=>[]
 | x :: r,k=>if k=x.1 then sDel r k else x :: sDel r k
theorem sId_none:∀ {S:Ses} {k:ByteArray},sId S k=none↔k ∉ S.map Prod.fst
 | [],k=>by simp[sId]
 | x :: r,k=>by
  rw[sId,List.map_cons,List.mem_cons]
  by_cases e:k=x.1
  ·rw[if_pos e];simp[e]
  ·rw[if_neg e,sId_none];simp[e]
theorem sId_some {S:Ses} {k:ByteArray}:(sId S k).isSome=true↔k∈S.map Prod.fst:=by
 have:=@sId_none S k
 cases e:sId S k with
 | none=>rw[e] at this;simpa using this.1 rfl
 | some i=>rw[e] at this;simp at this;simpa using this
theorem sId_add:∀ {S:Ses} {k:ByteArray} {i:Int},sId S k=none -> ∀ j,sId (S ++ [(k,i)]) j=if j=k then some i else sId S j
 | [],k,i,_,j=>rfl
 | x :: r,k,i,h,j=>by
  rw[sId] at h
  by_cases e:k=x.1
  ·rw[if_pos e] at h;cases h
  ·rw[if_neg e] at h
   show (if j=x.1 then some x.2 else sId (r ++ [(k,i)]) j)=_
   rw[sId_add h j]
   show _=if j=k then some i else if j=x.1 then some x.2 else sId r j
   by_cases e1:j=x.1
   ·rw[if_pos e1,if_neg (fun q:j=k=>e (q.symm.trans e1)),if_pos e1]
   ·rw[if_neg e1,if_neg e1]
theorem sId_del:∀ (S:Ses) (k j:ByteArray),sId (sDel S k) j=if j=k then none else sId S j
 | [],k,j=>by rw[sDel,sId];split <;> rfl
 | x :: r,k,j=>by
  rw[sDel]
  by_cases e:k=x.1
  ·rw[if_pos e,sId_del r k j,sId]
   by_cases e1:j=k
   ·rw[if_pos e1,if_pos e1]
   ·rw[if_neg e1,if_neg e1,if_neg (fun q=>e1 (q.trans e.symm))]
  ·rw[if_neg e,sId,sId_del r k j,sId]
   by_cases e1:j=x.1
   ·rw[if_pos e1,if_pos e1,if_neg (fun q:j=k=>e (q.symm.trans e1))]
   ·rw[if_neg e1,if_neg e1]
theorem sDel_mem:∀ {S:Ses} {k j:ByteArray},j∈(sDel S k).map Prod.fst->j∈S.map Prod.fst
 | [],_,_,h=>h
 | x :: r,k,j,h=>by
  rw[sDel] at h
  rw[List.map_cons,List.mem_cons]
  by_cases e:k=x.1
  ·rw[if_pos e] at h;exact .inr (sDel_mem h)
  ·rw[if_neg e,List.map_cons,List.mem_cons] at h
   exact h.imp id sDel_mem
theorem sDel_nd:∀ {S:Ses} {k:ByteArray},(S.map Prod.fst).Nodup->((sDel S k).map Prod.fst).Nodup
 | [],_,h=>h
 | x :: r,k,h=>by
  rw[List.map_cons,List.nodup_cons] at h
  rw[sDel]
  by_cases e:k=x.1
  ·rw[if_pos e];exact sDel_nd h.2
  ·rw[if_neg e,List.map_cons,List.nodup_cons]
   exact⟨fun q=>h.1 (sDel_mem q),sDel_nd h.2⟩
theorem sDel_len:∀ (S:Ses) (k:ByteArray),(sDel S k).length<=S.length
 | [],_=>Nat.le_refl _
 | x :: r,k=>by
  rw[sDel]
  have:=sDel_len r k
  split
  ·rw[List.length_cons];omega
  ·rw[List.length_cons,List.length_cons];omega
theorem sAdd_nd {S:Ses} {k:ByteArray} {i:Int} (h:(S.map Prod.fst).Nodup) (hk:sId S k=none):((S ++ [(k,i)]).map Prod.fst).Nodup:=by
 rw[List.map_append,List.nodup_append]
 refine⟨h,by simp,fun a ha b hb e=>?_⟩
 have hb':b=k:=by simpa using hb
 exact sId_none.1 hk (by rw[<- hb',<- e];exact ha)
def SesR (D:DataW Value) (S:Ses):Prop:=∀ k,look D (kS k)=(sId S k).map (fun i=>Value.int .i64 i)
theorem SesR.nil:SesR (.map []) []:=fun k=>by rw[look_empty];rfl
theorem run_delS {w:World} (t e:TypeId) (ht:Tryz.prog.underlying t=some (.map 9 e)) {b n:Nat} {D:DataW Value} (hown:w.ownsMap Tryz.prog 9 anyE b n D) (k:ByteArray) (hk:k.size<=maxLen) :
  ∃ w',(∀ ty,(Builtin.delete_ #[t,9] ty #[.map (some b),.string k]).run Tryz.prog w=.ok (.tuple #[]) w')/\w'.ownsMap Tryz.prog 9 anyE b n (D.del (kS k))/\w.grownBy w' (some b)/\w'.heap.size=w.heap.size:=by
 have hkey:keyOf Tryz.prog 9 (.string k)=some (kS k):=by simp[keyOf,mapKey,Tryz.underlying9,hk]
 obtain⟨es,clock,hb,F,hs,hD⟩:=hown
 obtain⟨es',hrun,F',hle,hdel,_⟩:=Maps.fit_drop (ty:=0) keyed ht hb F hkey
 refine⟨_,fun ty=>?_,⟨es',clock,heap_setBlock_same hb _,F',Nat.le_trans hle hs,by rw[hD,DataW.del_eq,hdel]⟩,⟨rfl,rfl,rfl,by simp[setBlock],fun k _ hk=>heap_setBlock_other hb _ (fun g=>hk (by rw[g]))⟩,by simp[setBlock]⟩
 rw[<- hrun];rfl
theorem run_clearS {w:World} (t e:TypeId) (ht:Tryz.prog.underlying t=some (.map 9 e)) {b n:Nat} {D:DataW Value} (hown:w.ownsMap Tryz.prog 9 anyE b n D) :
  ∃ w',(∀ ty,(Builtin.clear_ #[t] ty #[.map (some b)]).run Tryz.prog w=.ok (.tuple #[]) w')/\w'.ownsMap Tryz.prog 9 anyE b 0 (.map [])/\w.grownBy w' (some b)/\w'.heap.size=w.heap.size:=by
 obtain⟨es,clock,hb,F,hs,hD⟩:=hown
 refine⟨setBlock w b (.map #[] clock),fun ty=>?_,⟨#[],clock,heap_setBlock_same hb _,⟨by simp,MapKept.stamped_empty clock,by simp⟩,Nat.le_refl _,rfl⟩,⟨rfl,rfl,rfl,by simp[setBlock],fun k _ hk=>heap_setBlock_other hb _ (fun g=>hk (by rw[g]))⟩,by simp[setBlock]⟩
 simp[Builtin.clear_,run_underlying ht,MapKept.run_getObj_map hb,MapKept.run_setObj_map _ hb,Result.andThen,setBlock]
structure HlX (T:Td) (w:World) (G:Nat->Prop) (H:Nat) (d:Dk) (S:Ses) (F:Nat->Prop) (B M n:Nat) (D:DataW Value):Prop where
 ds:Ds T w F B d
 hh:Hh w H B M
 mp:w.ownsMap Tryz.prog 9 anyE M n D
 sr:SesR D S
 nH:¬ F H
 nM:¬ F M
 ne:H≠M
 gs:∀ j,G j↔F j \/ j=H \/ j=M
 nd:(S.map Prod.fst).Nodup
 no:∀ j,G j -> ¬ Gl j
def Hl (T:Td) (w:World) (G:Nat->Prop) (H:Nat) (d:Dk) (S:Ses):Prop:=∃ F B M n D,HlX T w G H d S F B M n D
def Hp (T:Td) (G:Nat->Prop) (H:Nat) (w w':World) (d:Dk) (S:Ses):Prop:=∃ G',Hl T w' G' H d S/\(∀ j,G' j->Nw G w w' j)/\But G w w'
section
variable {T:Td} {w w':World} {G F:Nat->Prop} {H B M n:Nat} {D:DataW Value} {d:Dk} {S:Ses}
theorem HlX.ltM (h:HlX T w G H d S F B M n D):M<w.heap.size:=h.mp.lt
theorem HlX.lt (h:HlX T w G H d S F B M n D) {j:Nat} (hj:G j):j<w.heap.size:=by
 rcases (h.gs j).1 hj with q|q|q
 ·exact h.ds.lt j q
 ·rw[q];exact h.hh.lt
 ·rw[q];exact h.ltM
theorem Hl.lt (h:Hl T w G H d S) {j:Nat} (hj:G j):j<w.heap.size:=by
 obtain⟨F,B,M,n,D,hx⟩:=h
 exact hx.lt hj
theorem Hl.en (h:Hl T w G H d S):En w:=by
 obtain⟨F,B,M,n,D,hx⟩:=h
 exact hx.ds.en
theorem Hl.but (V:DFace T) {E:Nat->Prop} (h:Hl T w G H d S) (hb:But E w w') (hE:∀ j,G j -> ¬ E j) (en:En w'):Hl T w' G H d S:=by
 obtain⟨F,B,M,n,D,hx⟩:=h
 exact⟨F,B,M,n,D,⟨⟨V.but hx.ds.t hb (fun j _ hj=>hE j ((hx.gs j).2 (.inl hj))),fun j hj=>Nat.lt_of_lt_of_le (hx.ds.lt j hj) hb.size,hx.ds.no,en⟩,hx.hh.but hb (hE H ((hx.gs H).2 (.inr (.inl rfl)))),map_but hx.mp hb (hE M ((hx.gs M).2 (.inr (.inr rfl)))),hx.sr,hx.nH,hx.nM,hx.ne,hx.gs,hx.nd,hx.no⟩⟩
theorem Hl.step (V:DFace T) (h:Hl T w G H d S) (hb:Below w.heap.size w w'):Hl T w' G H d S:=h.but V (E:=fun _=>False) (.below hb) (fun _ _=>id) (h.en.step hb)
theorem HlX.step (V:DFace T) (h:HlX T w G H d S F B M n D) (hb:Below w.heap.size w w'):HlX T w' G H d S F B M n D:=⟨h.ds.step V hb,h.hh.step hb,map_but (F:=fun _=>False) h.mp (.below hb) id,h.sr,h.nH,h.nM,h.ne,h.gs,h.nd,h.no⟩
theorem HlX.desk {d':Dk} {F':Nat->Prop} (h:HlX T w G H d S F B M n D) (hd:Ds T w' F' B d') (hn:∀ j,F' j->Nw F w w' j) (hb:But F w w'):Hp T G H w w' d' S:=by
 have nw:∀ {j},F' j->j<w.heap.size->F j:=fun hj hl=>(hn _ hj).elim id (fun q=>by have:=q.1;omega)
 have lH:=h.hh.lt
 have lM:=h.ltM
 refine⟨fun j=>F' j \/ j=H \/ j=M,⟨F',B,M,n,D,hd,h.hh.but hb h.nH,map_but h.mp hb h.nM,h.sr,fun q=>h.nH (nw q lH),fun q=>h.nM (nw q lM),h.ne,fun j=>Iff.rfl,h.nd,fun j hj=>?_⟩,fun j hj=>?_,hb.mono (fun j _ hj=>(h.gs j).2 (.inl hj))⟩
 ·rcases hj with q|q|q
  ·exact hd.no j q
  ·exact h.no j ((h.gs j).2 (.inr (.inl q)))
  ·exact h.no j ((h.gs j).2 (.inr (.inr q)))
 ·rcases hj with q|q|q
  ·exact (hn j q).imp (fun g=>(h.gs j).2 (.inl g)) id
  ·exact .inl ((h.gs j).2 (.inr (.inl q)))
  ·exact .inl ((h.gs j).2 (.inr (.inr q)))
theorem HlX.ses (V:DFace T) {S':Ses} {n':Nat} {D':DataW Value} (h:HlX T w G H d S F B M n D) (hb:But (fun j=>j=M) w w') (ho:w'.ownsMap Tryz.prog 9 anyE M n' D') (hr:SesR D' S') (hn:(S'.map Prod.fst).Nodup):Hp T G H w w' d S':=by
 have gM:G M:=(h.gs M).2 (.inr (.inr rfl))
 have en:En w':=h.ds.en.but hb (fun j hj=>by rw[hj];exact h.no M gM)
 refine⟨G,⟨F,B,M,n',D',⟨V.but h.ds.t hb (fun j _ hj q=>h.nM (q ▸ hj)),fun j hj=>Nat.lt_of_lt_of_le (h.ds.lt j hj) hb.size,h.ds.no,en⟩,h.hh.but hb h.ne,ho,hr,h.nH,h.nM,h.ne,h.gs,hn,h.no⟩,fun j hj=>.inl hj,hb.mono (fun j _ hj=>by rw[hj];exact gM)⟩
theorem Hp.refl (h:Hl T w G H d S):Hp T G H w w d S:=⟨G,h,fun _ hj=>.inl hj,But.refl _ _⟩
theorem Hp.then {G1:Nat->Prop} {w1 w2:World} {d2:Dk} {S2:Ses} (hn:∀ j,G1 j->Nw G w w1 j) (hb:But G w w1) (k:Hp T G1 H w1 w2 d2 S2):Hp T G H w w2 d2 S2:=by
 obtain⟨G2,h2,n2,b2⟩:=k
 have s1:=hb.size
 have s2:=b2.size
 refine⟨G2,h2,fun j hj=>?_,hb.then b2 (fun j hj q=>(hn j q).elim id (fun g=>by have:=g.1;omega))⟩
 rcases n2 j hj with g|g
 ·rcases hn j g with q|q
  ·exact .inl q
  ·exact .inr ⟨q.1,by omega⟩
 ·exact .inr ⟨by omega,g.2⟩
theorem Hp.step (V:DFace T) {w2:World} (h:Hp T G H w w' d S) (hb:Below w'.heap.size w' w2):Hp T G H w w2 d S:=by
 obtain⟨G',h1,n1,b1⟩:=h
 exact⟨G',h1.step V hb,fun j hj=>(n1 j hj).imp id (fun q=>⟨q.1,Nat.lt_of_lt_of_le q.2 hb.size⟩),b1.step hb⟩
theorem Hp.ahead {w1:World} (hb:Below w.heap.size w w1) (k:Hp T G H w1 w' d S):Hp T G H w w' d S:=Hp.then (G1:=G) (fun _ hj=>.inl hj) (.below hb) k
theorem hallNew (V:DFace T) (room:Int) (en:En w) (h0:0<=room) (h1:room<=100000) :
  Calls Tryz.prog 5 #[.int .i64 room] w fun e w'=>∃ H G,e=.returned (.tuple #[.pointer (some ⟨H,0,none⟩),.nilIface])/\Hl T w' G H (dk0 room) []/\(∀ j,G j->w.heap.size<=j)/\Below w.heap.size w w':=by
 refine (hlNew V room en h0 h1).mono ?_
 rintro e w' ⟨H,B,M,F,rfl,ds,hh,mp,nH,nM,ne,l1,l2,l3,hb⟩
 have gl:∀ {j},w.heap.size<=j -> ¬ Gl j:=fun hj q=>by have:=en.lt q;omega
 refine⟨H,fun j=>F j \/ j=H \/ j=M,rfl,⟨F,B,M,0,.map [],ds,hh,mp,SesR.nil,nH,nM,ne,fun _=>Iff.rfl,List.nodup_nil,fun j hj=>gl ?_⟩,fun j hj=>?_,hb⟩
 all_goals (rcases hj with q|q|q;exact l1 j q;rw[q];exact l2;rw[q];exact l3)
end
end Go.Proofs.YtcjdoeclblhaeaaGreatDoor.Pa
namespace Go.Proofs.YtcjdoeclblhaeaaGreatDoor.Pa
open Go.RowKit Go.Maps Go.WideShapes Go.ChangeMaps Vs
theorem zeroI (w:World):(zeroValue 3).run Tryz.prog w=.ok (.int .i64 0) w:=by kernel_rfl
def sF (S:Ses) (k:ByteArray):Int:=if (sId S k).isSome=true then 0 else 4
def sN (S:Ses) (k:ByteArray):Int:=(sId S k).getD 0
section
variable {T:Td} {w w':World} {G F:Nat->Prop} {H B M n:Nat} {D:DataW Value} {d:Dk} {S:Ses}
theorem hlFind (h:HlX T w G H d S F B M n D) (k:ByteArray) (hk:k.size<=maxLen) :
  Calls Tryz.prog 82 #[.pointer (some ⟨H,0,none⟩),.string k] w fun e w'=>e=.returned (.tuple #[.int .i64 (sN S k),ev (sF S k)])/\w'=w:=by
 have c1:=h.hh.c1
 have l1:=run_lookS 43 3 true Tryz.underlying43 (zeroI w) h.mp k hk
 rw[h.sr k] at l1
 unfold sN sF
 cases e:sId S k with
 | none=>
  rw[e] at l1
  simp only [if_true,Option.map_none,Option.getD_none,Option.isSome_none] at l1
  rw[if_neg (by simp),show ev 4=errN 4 from rfl]
  clear h
  go_enter Tryz.func82,Tryz.ntmps82
  go_wp2
  go_ret2
  exact⟨rfl,rfl⟩
 | some i=>
  rw[e] at l1
  simp only [if_true,Option.map_some,Option.getD_some,Option.isSome_some] at l1
  rw[if_pos (by simp),ev_0]
  clear h
  go_enter Tryz.func82,Tryz.ntmps82
  go_wp2
  go_ret2
  exact⟨rfl,rfl⟩
theorem sesDel {D:DataW Value} {S:Ses} (h:SesR D S) (k:ByteArray):SesR (D.del (kS k)) (sDel S k):=fun j=>by
 rw[sId_del]
 by_cases e:j=k
 ·rw[if_pos e,e,look_del];rfl
 ·rw[if_neg e,look_del_other (kS_ne e)];exact h j
theorem hlEnd (V:DFace T) (h:HlX T w G H d S F B M n D) (k:ByteArray) (hk:k.size<=maxLen) :
  Calls Tryz.prog 73 #[.pointer (some ⟨H,0,none⟩),.string k] w fun e w'=>e=.returned (.tuple #[.int .i64 (sN S k),ev (sF S k)])/\Hp T G H w w' d (sDel S k):=by
 have c1:=h.hh.c1
 have K:=hlFind h k hk
 obtain⟨w1,hrun,ho1,hg1,hs1⟩:=run_delS 43 3 Tryz.underlying43 h.mp k hk
 have P:Hid (Hp T G H w w1 d (sDel S k)):=h.ses V (grown_butM hg1) ho1 (sesDel h.sr k) (sDel_nd h.nd)
 clear ho1 hg1 h
 obtain⟨v,hv,hv1⟩:∃ v:Value,Hid (v=ev (sF S k))/\(v=.nilIface \/ v=errN 4):=⟨_,rfl,by unfold sF;split;exact .inl ev_0;exact .inr rfl⟩
 rw[<- hv.out] at K ⊢
 clear hv
 rcases hv1 with rfl|rfl
 all_goals (
  go_enter Tryz.func73,Tryz.ntmps73
  go_wp2_with (go_at_call 82;refine K.mono ?_;rintro e w2 ⟨rfl,hw⟩;have:=hw.symm;subst this)
  go_ret2
  exact⟨rfl,P.out⟩)
def hoF (d:Dk) (S:Ses) (k:ByteArray):Int:=if Bur.isN k.data.toList=true then (if (sId S k).isSome=true then 6 else bgF d) else 5
def hoD (d:Dk) (S:Ses) (k:ByteArray):Dk:=if Bur.isN k.data.toList=true/\sId S k=none then bgD d else d
def hoS (d:Dk) (S:Ses) (k:ByteArray):Ses:=if hoF d S k=0 then S ++ [(k,bgN d)] else S
def hcF (d:Dk) (S:Ses) (k:ByteArray):Int:=match sId S k with
 | none=>4
 | some i=>cmF d i
def hcN (d:Dk) (S:Ses) (k:ByteArray):Int:=match sId S k with
 | none=>0
 | some i=>cmN d i
def hcD (d:Dk) (S:Ses) (k:ByteArray):Dk:=match sId S k with
 | none=>d
 | some i=>cmD d i
def hqF (d:Dk) (S:Ses) (k:ByteArray):Int:=match sId S k with
 | none=>4
 | some i=>abF d i
def hqD (d:Dk) (S:Ses) (k:ByteArray):Dk:=match sId S k with
 | none=>d
 | some i=>opDel d i
theorem hallClose (V:DFace T) (h:Hl T w G H d S) (ok:OkD d) (sm:Sm d) (sz:Spz d) (k:ByteArray) (hk:k.size<=maxLen) :
  Calls Tryz.prog 46 #[.pointer (some ⟨H,0,none⟩),.string k] w fun e w'=>e=.returned (.tuple #[.int .i64 (hcN d S k),ev (hcF d S k)])/\Hp T G H w w' (hcD d S k) (sDel S k):=by
 obtain⟨F,B,M,n,D,hx⟩:=h
 have K:=hlEnd V hx k hk
 unfold hcN hcF hcD
 unfold sN sF at K
 cases e:sId S k with
 | none=>
  rw[e] at K
  simp only [Option.getD_none,Option.isSome_none] at K
  rw[if_neg (by simp),show ev 4=errN 4 from rfl] at K
  simp only
  rw[show ev 4=errN 4 from rfl]
  go_enter Tryz.func46,Tryz.ntmps46
  go_wp2_with (go_at_call 73;refine K.mono ?_;clear K;rintro e w1 ⟨rfl,hp⟩)
  go_ret2
  exact⟨rfl,hp⟩
 | some i=>
  rw[e] at K
  simp only [Option.getD_some,Option.isSome_some] at K
  rw[if_pos (by simp),ev_0] at K
  simp only
  obtain⟨v,hv,hv1⟩:∃ v:Value,Hid (v=ev (cmF d i))/\(v=.nilIface \/ ∃ f,v=errN f):=⟨_,rfl,by by_cases q:cmF d i=0;exact .inl (by rw[q,ev_0]);exact .inr ⟨_,ev_ne q⟩⟩
  rw[<- hv.out]
  have K2:∀ {w1:World} {F1:Nat->Prop} {B1:Nat},Ds T w1 F1 B1 d->Calls Tryz.prog 75 #[.pointer (some ⟨B1,0,none⟩),.int .i64 i] w1 fun e w'=>e=.returned (.tuple #[.int .i64 (cmN d i),v])/\Dj T F1 w1 w' B1 (cmD d i):=fun hd=>by
   rw[hv.out]
   exact (V.commit i hd.t ok sm hd.lt sz).mono (fun e w' q=>⟨q.1,Dj.of hd q.2.1 (fun j hj=>hj) q.2.2⟩)
  clear hv ok sm sz
  generalize cmN d i=nn at K2 ⊢
  generalize cmD d i=d2 at K2 ⊢
  rcases hv1 with rfl|⟨f,rfl⟩
  all_goals (
   go_enter Tryz.func46,Tryz.ntmps46
   go_wp2_with (first
    | (go_at_call 73;refine K.mono ?_;clear K;rintro e w1 ⟨rfl,G1,⟨F1,B1,M1,n1,D1,hx1⟩,hn1,hb1⟩;have c0:=hx1.hh.c0;have KC:=K2 hx1.ds)
    | (go_at_call 75;refine KC.mono ?_;clear KC;rintro e w2 ⟨rfl,dj⟩))
   go_ret2
   obtain⟨F2,q1,q2⟩:=dj.ex
   exact⟨rfl,Hp.then hn1 hb1 (hx1.desk q1 q2 dj.bt)⟩)
theorem hallQuit (V:DFace T) (h:Hl T w G H d S) (ok:OkD d) (sm:Sm d) (k:ByteArray) (hk:k.size<=maxLen) :
  Calls Tryz.prog 44 #[.pointer (some ⟨H,0,none⟩),.string k] w fun e w'=>e=.returned (ev (hqF d S k))/\Hp T G H w w' (hqD d S k) (sDel S k):=by
 obtain⟨F,B,M,n,D,hx⟩:=h
 have K:=hlEnd V hx k hk
 unfold hqF hqD
 unfold sN sF at K
 cases e:sId S k with
 | none=>
  rw[e] at K
  simp only [Option.getD_none,Option.isSome_none] at K
  rw[if_neg (by simp),show ev 4=errN 4 from rfl] at K
  simp only
  rw[show ev 4=errN 4 from rfl]
  go_enter Tryz.func44,Tryz.ntmps44
  go_wp2_with (go_at_call 73;refine K.mono ?_;clear K;rintro e w1 ⟨rfl,hp⟩)
  go_ret
  exact⟨rfl,hp⟩
 | some i=>
  rw[e] at K
  simp only [Option.getD_some,Option.isSome_some] at K
  rw[if_pos (by simp),ev_0] at K
  simp only
  obtain⟨v,hv,hv1⟩:∃ v:Value,Hid (v=ev (abF d i))/\(v=.nilIface \/ ∃ f,v=errN f):=⟨_,rfl,by by_cases q:abF d i=0;exact .inl (by rw[q,ev_0]);exact .inr ⟨_,ev_ne q⟩⟩
  rw[<- hv.out]
  have K2:∀ {w1:World} {F1:Nat->Prop} {B1:Nat},Ds T w1 F1 B1 d->Calls Tryz.prog 74 #[.pointer (some ⟨B1,0,none⟩),.int .i64 i] w1 fun e w'=>e=.returned v/\Dj T F1 w1 w' B1 (opDel d i):=fun hd=>by
   rw[hv.out]
   exact (V.abort i hd.t ok sm hd.lt).mono (fun e w' q=>⟨q.1,Dj.of hd q.2.1 (fun j hj=>hj) q.2.2⟩)
  clear hv ok sm
  generalize opDel d i=d2 at K2 ⊢
  rcases hv1 with rfl|⟨f,rfl⟩
  all_goals (
   go_enter Tryz.func44,Tryz.ntmps44
   go_wp2_with (first
    | (go_at_call 73;refine K.mono ?_;clear K;rintro e w1 ⟨rfl,G1,⟨F1,B1,M1,n1,D1,hx1⟩,hn1,hb1⟩;have c0:=hx1.hh.c0;have KC:=K2 hx1.ds)
    | (go_at_call 74;refine KC.mono ?_;clear KC;rintro e w2 ⟨rfl,dj⟩))
   go_ret
   obtain⟨F2,q1,q2⟩:=dj.ex
   exact⟨rfl,Hp.then hn1 hb1 (hx1.desk q1 q2 dj.bt)⟩)
theorem sesAdd {D:DataW Value} {S:Ses} (hD:IsMap D) (h:SesR D S) {k:ByteArray} (hk:sId S k=none) (i:Int):SesR (D.put (kS k) (.held (.int .i64 i))) (S ++ [(k,i)]):=fun j=>by
 rw[sId_add hk]
 by_cases e:j=k
 ·rw[if_pos e,e,look_put hD (kS_key k)];rfl
 ·rw[if_neg e,look_put_other (kS_ne e)];exact h j
theorem HlX.tight (h:HlX T w G H d S F B M n D):w.ownsMap Tryz.prog 9 anyE M S.length D:=by
 have e:Maps.size D=(S.map Prod.fst).length:=size_strs h.mp h.nd (fun x=>by rw[h.sr x,Option.isSome_map];exact sId_some.symm)
 have:=own_tight h.mp
 rw[e,List.length_map] at this
 exact this
theorem hallOpen (V:DFace T) (h:Hl T w G H d S) (ok:OkD d) (sm:Sm d) (k:ByteArray) (hk:k.size<=maxLen) (hS:S.length<=1000) :
  Calls Tryz.prog 43 #[.pointer (some ⟨H,0,none⟩),.string k] w fun e w'=>e=.returned (ev (hoF d S k))/\Hp T G H w w' (hoD d S k) (hoS d S k):=by
 obtain⟨F,B,M,n,D,hx⟩:=h
 have KN:=plName k w
 unfold hoS hoD hoF
 unfold Bur.nmF at KN
 by_cases e:Bur.isN k.data.toList=true
 ·rw[if_pos e,ev_0] at KN
  rw[if_pos e]
  have L1:∀ {w1:World},Below w.heap.size w w1->_:=fun {w1} hb=>run_lookS 43 3 true Tryz.underlying43 (zeroI w1) (hx.step V hb).mp k hk
  rw[hx.sr k] at L1
  cases q:sId S k with
  | some i=>
   rw[q] at L1
   simp only [if_true,Option.map_some,Option.getD_some,Option.isSome_some] at L1
   rw[if_pos (by simp),if_neg (by simp),if_neg (by decide),show ev 6=errN 6 from rfl]
   go_enter Tryz.func43,Tryz.ntmps43
   go_wp2_with (go_at_call 71;refine KN.mono ?_;clear KN;rintro e w1 ⟨rfl,hb1⟩;have c1:=(hx.step V hb1).hh.c1;have l1:=L1 hb1)
   go_ret
   exact⟨rfl,Hp.step V (Hp.refl ⟨F,B,M,n,D,hx⟩) hb1⟩
  | none=>
   rw[q] at L1
   simp only [if_true,Option.map_none,Option.getD_none,Option.isSome_none] at L1
   rw[if_neg (by simp),if_pos ⟨e,rfl⟩]
   have K2:∀ {w1:World} {F1:Nat->Prop} {B1:Nat},Ds T w1 F1 B1 d->Calls Tryz.prog 72 #[.pointer (some ⟨B1,0,none⟩)] w1 fun e w'=>e=.returned (.tuple #[.int .i64 (bgN d),ev (bgF d)])/\Dj T F1 w1 w' B1 (bgD d):=fun hd=>
    (V.begin_ hd.t ok sm hd.lt).mono (fun e w' q=>⟨q.1,Dj.of hd q.2.1 (fun j hj=>hj) q.2.2⟩)
   have hkey:keyOf Tryz.prog 9 (.string k)=some (kS k):=by simp[keyOf,mapKey,Tryz.underlying9,hk]
   by_cases g:bgF d=0
   ·rw[g,ev_0] at K2
    rw[if_pos g,g,ev_0]
    generalize bgN d=id1 at K2 ⊢
    generalize bgD d=d1 at K2 ⊢
    clear ok sm
    go_enter Tryz.func43,Tryz.ntmps43
    go_wp2_with (first
     | (go_at_call 71;refine KN.mono ?_;clear KN;rintro e w1 ⟨rfl,hb1⟩;have hx1:=hx.step V hb1;have c1:=hx1.hh.c1;have c0:=hx1.hh.c0;have l1:=L1 hb1;have KB:=K2 hx1.ds)
     | (go_at_call 72;refine KB.mono ?_;clear KB;rintro e w2 ⟨rfl,dj⟩;obtain⟨F2,q1,q2⟩:=dj.ex;obtain⟨G2,⟨F3,B3,M3,n3,D3,hx2⟩,hn2,hb2⟩:=hx1.desk q1 q2 dj.bt;have m1:=hx2.hh.c1;have ho2:=hx2.tight;obtain⟨w5,hput,own5,hg5⟩:=ho2.update keyed Tryz.underlying43 (by unfold maxLen;omega) hkey (val:=.int .i64 id1) (d:=.held (.int .i64 id1)) (ps:=[]) rfl))
    go_ret
    exact⟨rfl,Hp.ahead hb1 (Hp.then hn2 hb2 (hx2.ses V (grown_butM hg5) own5 (sesAdd ho2.isMap hx2.sr q _) (sAdd_nd hx2.nd q)))⟩
   ·rw[ev_ne g] at K2
    rw[if_neg g,ev_ne g]
    generalize bgN d=id1 at K2 ⊢
    generalize bgD d=d1 at K2 ⊢
    generalize bgF d=f at K2 ⊢
    clear ok sm
    go_enter Tryz.func43,Tryz.ntmps43
    go_wp2_with (first
     | (go_at_call 71;refine KN.mono ?_;clear KN;rintro e w1 ⟨rfl,hb1⟩;have hx1:=hx.step V hb1;have c1:=hx1.hh.c1;have c0:=hx1.hh.c0;have l1:=L1 hb1;have KB:=K2 hx1.ds)
     | (go_at_call 72;refine KB.mono ?_;clear KB;rintro e w2 ⟨rfl,dj⟩;obtain⟨F2,q1,q2⟩:=dj.ex))
    go_ret
    exact⟨rfl,Hp.ahead hb1 (hx1.desk q1 q2 dj.bt)⟩
 ·rw[if_neg e,show ev 5=errN 5 from rfl] at KN
  rw[if_neg e,if_neg (fun q=>e q.1),if_neg (by decide),show ev 5=errN 5 from rfl]
  go_enter Tryz.func43,Tryz.ntmps43
  go_wp2_with (go_at_call 71;refine KN.mono ?_;clear KN;rintro e w1 ⟨rfl,hb1⟩)
  go_ret
  exact⟨rfl,Hp.step V (Hp.refl ⟨F,B,M,n,D,hx⟩) hb1⟩
end
end Go.Proofs.YtcjdoeclblhaeaaGreatDoor.Pa
namespace Go.Proofs.YtcjdoeclblhaeaaGreatDoor.Pa
open Go.RowKit Go.Maps Vs
def haF (d:Dk) (S:Ses) (k:ByteArray) (c:Cl):Int:=match sId S k with
 | none=>4
 | some i=>runF (doP c) d i
def haA (d:Dk) (S:Ses) (k:ByteArray) (c:Cl):An:=match sId S k with
 | none=>an0
 | some i=>runA (doP c) d i
def haD (d:Dk) (S:Ses) (k:ByteArray) (c:Cl):Dk:=match sId S k with
 | none=>d
 | some i=>runD (doP c) d i
section
variable {T:Td} {w w':World} {G F:Nat->Prop} {H B M n:Nat} {D:DataW Value} {d:Dk} {S:Ses}
theorem hallAsk (V:DFace T) (h:Hl T w G H d S) (ok:OkD d) (sm:Sm d) (k:ByteArray) (hk:k.size<=maxLen) (c:Cl) :
  Calls Tryz.prog 52 #[.pointer (some ⟨H,0,none⟩),.string k,clV c] w fun e w'=>∃ u,e=.returned (.tuple #[anV (haA d S k c) u,ev (haF d S k c)])/\w'.ownsRow w.heap.size 105 2 u (haA d S k c).l.length (pfV (haA d S k c).l) /\ ∃ G',Hl T w' G' H (haD d S k c) S/\(∀ j,G' j->Nw G w w' j)/\But G w w' /\ ∀ j,u.ownBlock=some j -> ¬ G' j:=by
 obtain⟨F,B,M,n,D,hx⟩:=h
 obtain⟨W,hW⟩:∃ W,W=(w.alloc (.cells (clA c) 107)).alloc (.cells #[.int .i64 0,.int .i64 0,.int .i64 0,.string ⟨#[]⟩,.slice none 0 0] 111):=⟨_,rfl⟩
 have bW:Below w.heap.size w W:=by rw[hW];exact below_al (below_al (below_self w) _) _
 obtain⟨bb,hbb⟩:∃ bb,bb=w.heap.size:=⟨_,rfl⟩
 have cb:Cb W bb c:=by rw[hW,hbb];exact (Cb.new w c _).step (below_al (below_self _) _)
 have ab:Ab W (bb+1) (.int .i64 0) (.int .i64 0) (.int .i64 0) (.string ⟨#[]⟩) (.slice none 0 0):=by
  have:=Ab.new (w.alloc (.cells (clA c) 107)) (.int .i64 0) (.int .i64 0) (.int .i64 0) (.string ⟨#[]⟩) (.slice none 0 0) 111
  rw[World.size_alloc] at this
  rw[hW,hbb];exact this
 have hxW:=hx.step V bW
 have KF:=hlFind hxW k hk
 have lW:bb+1<W.heap.size:=ab.lt
 have hlb:∀ j,F j->j<w.heap.size:=hx.ds.lt
 have nb0:¬ F bb:=fun q=>by have:=hlb _ q;omega
 have nb1:¬ F (bb+1):=fun q=>by have:=hlb _ q;omega
 have lH:=hx.hh.lt
 have lM:=hx.ltM
 unfold haA haF haD
 unfold sN sF at KF
 have FIN:∀ {d2:Dk} {F2:Nat->Prop} {wx w3 wf:World} {u:Value} {m:Nat} {xs:List Value},Below W.heap.size W wx->Ds T w3 F2 B d2->(∀ j,F2 j->Nw F wx w3 j)->But F wx w3->w3.ownsRow wx.heap.size 105 2 u m xs->(∀ j,u.ownBlock=some j -> ¬ F2 j)->But (fun j=>j=bb+1) w3 wf->wf.ownsRow w.heap.size 105 2 u m xs /\ ∃ G',Hl T wf G' H d2 S/\(∀ j,G' j->Nw G w wf j)/\But G w wf /\ ∀ j,u.ownBlock=some j -> ¬ G' j:=by
  intro d2 F2 wx w3 wf u m xs bx h3 hn3 b3 row sep hb
  have sx:=bx.size
  have sw:=bW.size
  obtain⟨q1,q2,q3⟩:=do_fin (F:=F) (F1:=F) (w:=w) (wx:=wx) (ab:=bb+1) V hx.ds.en (.below (below_via bW bx)) (fun _ hj=>.inl hj) h3 hn3 b3 (by omega) (by omega) nb1 hb
  have row':wf.ownsRow w.heap.size 105 2 u m xs:=ownMono (by omega) (row_but row hb (fun j hj q=>by omega))
  obtain⟨G',g1,g2,g3⟩:=hx.desk q1 q2 q3
  refine⟨row',fun j=>F2 j \/ j=H \/ j=M,?_,?_,g3,fun j hj q=>?_⟩
  ·have nw:∀ {j},F2 j->j<w.heap.size->F j:=fun hj hl=>(q2 _ hj).elim id (fun q=>by have:=q.1;omega)
   refine⟨F2,B,M,n,D,q1,hx.hh.but q3 hx.nH,map_but hx.mp q3 hx.nM,hx.sr,fun q=>hx.nH (nw q lH),fun q=>hx.nM (nw q lM),hx.ne,fun j=>Iff.rfl,hx.nd,fun j hj=>?_⟩
   rcases hj with q|q|q
   ·exact q1.no j q
   ·exact hx.no j ((hx.gs j).2 (.inr (.inl q)))
   ·exact hx.no j ((hx.gs j).2 (.inr (.inr q)))
  ·intro j hj
   rcases hj with q|q|q
   ·exact (q2 j q).imp (fun g=>(hx.gs j).2 (.inl g)) id
   ·exact .inl ((hx.gs j).2 (.inr (.inl q)))
   ·exact .inl ((hx.gs j).2 (.inr (.inr q)))
  ·have hge:wx.heap.size<=j:=(row.lt j hj).1
   rcases q with q|q|q
   ·exact sep j hj q
   ·omega
   ·omega
 have FH:Hid _:=@FIN
 clear FIN
 cases e:sId S k with
 | none=>
  rw[e] at KF
  simp only [Option.getD_none,Option.isSome_none] at KF
  rw[if_neg (by simp),show ev 4=errN 4 from rfl] at KF
  simp only
  rw[show ev 4=errN 4 from rfl]
  obtain⟨a0,a1,a2,a3,a4,af0,af1,af2,af3,af4⟩:=id ab
  have R0:=FH.out (u:=.slice none 0 0) (m:=0) (xs:=[]) (below_self W) hxW.ds (fun j hj=>.inl hj) (But.refl _ _) (World.ownsRow_nil _ _ _ _) (fun j hj=>by cases hj) (but_5 (bb+1) (But.refl (fun j=>j=bb+1) W) (.int .i64 0) (.int .i64 0) (.int .i64 0) (.string ⟨#[]⟩) (.slice none 0 0))
  have RH:Hid _:=R0
  clear R0
  subst hbb
  go_enter Tryz.func52,Tryz.ntmps52
  go_wp2_with (go_at_call 82;rw[<- hW];refine KF.mono ?_;clear KF hW;rintro e w1 ⟨rfl,hw⟩;have:=hw.symm;subst this)
  exact bodyPost_ret (v:=.tuple #[anV an0 (.slice none 0 0),errN 4]) (by simp[results,Tryz.results52,go_sem,an0,(ab.all (.int .i64 0) (.int .i64 0) (.int .i64 0) (.string ⟨#[]⟩) (.slice none 0 0)).c0,(ab.all (.int .i64 0) (.int .i64 0) (.int .i64 0) (.string ⟨#[]⟩) (.slice none 0 0)).c1,(ab.all (.int .i64 0) (.int .i64 0) (.int .i64 0) (.string ⟨#[]⟩) (.slice none 0 0)).c2,(ab.all (.int .i64 0) (.int .i64 0) (.int .i64 0) (.string ⟨#[]⟩) (.slice none 0 0)).c3,(ab.all (.int .i64 0) (.int .i64 0) (.int .i64 0) (.string ⟨#[]⟩) (.slice none 0 0)).c4];rfl) rfl ⟨_,rfl,RH.out⟩
 | some i=>
  rw[e] at KF
  simp only [Option.getD_some,Option.isSome_some] at KF
  rw[if_pos (by simp),ev_0] at KF
  simp only
  have KD:=fun (wx:World) (bx:Below W.heap.size W wx)=>plDo V c i (hxW.ds.step V bx) ok sm
  unfold DoPost at KD
  generalize ev (runF (doP c) d i)=vf at KD ⊢
  generalize runA (doP c) d i=a at KD ⊢
  generalize runD (doP c) d i=d2 at KD ⊢
  have hh1:=hxW.hh
  have sx:∀ {wy:World},Hh wy H B M->Cb wy bb c->wy.cell? ⟨H,0,none⟩=some (.pointer (some ⟨B,0,none⟩))/\wy.cell? ⟨bb,0,none⟩=some (.int .i64 c.what)/\wy.cell? ⟨bb,1,none⟩=some (.string c.nm)/\wy.cell? ⟨bb,2,none⟩=some (.int .i64 c.p.1)/\wy.cell? ⟨bb,3,none⟩=some (.int .i64 c.p.2)/\wy.cell? ⟨bb,4,none⟩=some (.int .i64 c.len)/\wy.cell? ⟨bb,5,none⟩=some (.int .i64 c.ad)/\wy.cell? ⟨bb,6,none⟩=some (.string c.ow):=fun a b=>⟨a.c0,b.q0,b.q1,b.q2,b.q3,b.q4,b.q5,b.q6⟩
  have LT:Hid (∀ j,F j->j<w.heap.size):=hlb
  have HBB:Hid (bb=w.heap.size):=hbb
  have nz1:¬ H=bb+1:=fun q=>by omega
  have nz0:¬ bb=bb+1:=fun q=>by omega
  go_enter Tryz.func52,Tryz.ntmps52
  go_upto_region 4 with (go_at_call 82;rw[<- hW];refine KF.mono ?_;clear KF hW;rintro e w1 ⟨rfl,hw⟩;have:=hw.symm;subst this)
  rw[<- hbb]
  clear hbb lH lM lW hlb
  go_cut [7] from 20 to 28 (fun s7 wy=>s7=vf /\ ∃ pu cu,Ab wy (bb+1) (.int .i64 a.p.1) (.int .i64 a.p.2) (.int .i64 a.ad) (.string a.ow) (.slice pu a.l.length cu)/\wy.ownsRow w.heap.size 105 2 (.slice pu a.l.length cu) a.l.length (pfV a.l) /\ ∃ G',Hl T wy G' H d2 S/\(∀ j,G' j->Nw G w wy j)/\But G w wy /\ ∀ j,(Value.slice pu a.l.length cu).ownBlock=some j -> ¬ G' j)
  case first=>
   go_region_held3 (fun wy=>wy.cell? ⟨H,0,none⟩=some (.pointer (some ⟨B,0,none⟩))/\wy.cell? ⟨bb,0,none⟩=some (.int .i64 c.what)/\wy.cell? ⟨bb,1,none⟩=some (.string c.nm)/\wy.cell? ⟨bb,2,none⟩=some (.int .i64 c.p.1)/\wy.cell? ⟨bb,3,none⟩=some (.int .i64 c.p.2)/\wy.cell? ⟨bb,4,none⟩=some (.int .i64 c.len)/\wy.cell? ⟨bb,5,none⟩=some (.int .i64 c.ad)/\wy.cell? ⟨bb,6,none⟩=some (.string c.ow))
    (with_reducible first|exact sx (hh1.step (below_self W).drew) (cb.step (below_self W).drew)|exact sx hh1 cb|exact sx hh3 cb3|exact sx (hh3.but (but_5 (bb+1) (But.refl (fun j=>j=bb+1) w3) _ _ _ _ _) nz1) (cb3.but (but_5 (bb+1) (But.refl (fun j=>j=bb+1) w3) _ _ _ _ _) nz0))
    (first
     | (go_at_call 83;with_reducible refine (KD _ (below_self W).drew).mono ?_;rintro e w3 ⟨u,rfl,F2,h3,hn3,b3,row3,sep3⟩;obtain⟨pu,cu,rfl⟩:=own_form row3;have hh3:Hh w3 H B M:=(hh1.step (below_self W).drew).but b3 hx.nH;have cb3:Cb w3 bb c:=(cb.step (below_self W).drew).but b3 nb0;have ab3:=(ab.step (below_self W).drew).but b3 nb1;obtain⟨x0,x1,x2,x3,x4,y0,y1,y2,y3,y4⟩:=id ab3))
   all_goals (
    go_wp2_with fail
    go_meet)
   all_goals (exact⟨rfl,pu,cu,ab3.all _ _ _ _ _,FH.out (below_self _).drew h3 hn3 b3 row3 sep3 (but_5 _ (But.refl _ _) _ _ _ _ _)⟩)
  case rest=>
   obtain⟨hs7,pu,cu,abz,R⟩:=hcut
   rw[hs7]
   clear hs7
   have RH:Hid _:=R
   obtain⟨x0,x1,x2,x3,x4,y0,y1,y2,y3,y4⟩:=id abz
   go_wp2_with fail
   exact bodyPost_ret (v:=.tuple #[anV a (.slice pu a.l.length cu),vf]) (by simp[results,Tryz.results52,go_sem,x0,x1,x2,x3,x4]) rfl ⟨_,rfl,RH.out⟩
end
end Go.Proofs.YtcjdoeclblhaeaaGreatDoor.Pa
namespace Go.Proofs.YtcjdoeclblhaeaaGreatDoor.Pa
open Go.RowKit Vs
structure Oc (k:Nat) (d:Dk):Prop where
 dp:Dp k d
 op0:d.op=[]
 up:UpL d.lg
 ls:2*d.lg.ls.length<=k
theorem Oc.new:Oc 0 (dk0 100000):=⟨.new (by decide) (by decide),rfl,UpL.new,Nat.le_refl _⟩
theorem dp_run {k:Nat} {d:Dk} (h:Dp k d) (c:Cl) (i:Int):Dp (k+1) (runD (doP c) d i):=by
 obtain⟨a1,a2,a3,a4⟩:=run_good (doP c) d i (gd_do c) h.ok h.spz
 exact⟨a1,by have:=h.wl;omega,by have:=h.ids;omega,a4⟩
end Go.Proofs.YtcjdoeclblhaeaaGreatDoor.Pa
namespace Go.Proofs.YtcjdoeclblhaeaaGreatDoor.Pa
open Go.RowKit Go.Maps Vs
structure H1 (T:Td) (w0:World) (K:Nat->Prop) (w:World) (H:Nat) (d:Dk) (S:Ses):Prop where
 ex:∃ G,Hl T w G H d S /\ ∀ j,K j -> ¬ G j
 kl:∀ j,K j->j<w.heap.size
 old:∀ j,j<w0.heap.size->K j
 bl:Below w0.heap.size w0 w
section
variable {T:Td} {w0 w w':World} {K:Nat->Prop} {H:Nat} {d:Dk} {S:Ses}
theorem H1.op {G:Nat->Prop} {d':Dk} {S':Ses} (h:H1 T w0 K w H d S) (hK:∀ j,K j -> ¬ G j) (hp:Hp T G H w w' d' S'):H1 T w0 K w' H d' S'/\But (fun j=>¬ K j) w w':=by
 obtain⟨G',h1,n1,b1⟩:=hp
 have s:=b1.size
 refine⟨⟨⟨G',h1,fun j hj q=>?_⟩,fun j hj=>Nat.lt_of_lt_of_le (h.kl j hj) s,h.old,But.under2 h.bl b1 h.bl.size (fun i hi q=>hK i (h.old i hi) q)⟩,b1.mono (fun j _ hj q=>hK j q hj)⟩
 rcases n1 j q with g|g
 ·exact hK j hj g
 ·have:=h.kl j hj
  have:=g.1
  omega
theorem H1.step (V:DFace T) (h:H1 T w0 K w H d S) (hb:Below w.heap.size w w'):H1 T w0 (fun j=>K j \/ (w.heap.size<=j/\j<w'.heap.size)) w' H d S:=by
 obtain⟨G,h1,h2⟩:=h.ex
 have s:=hb.size
 refine⟨⟨G,h1.step V hb,fun j hj q=>?_⟩,fun j hj=>?_,fun j hj=>.inl (h.old j hj),below_via h.bl hb⟩
 ·rcases hj with g|g
  ·exact h2 j g q
  ·have:=h1.lt q
   have:=g.1
   omega
 ·rcases hj with g|g
  ·exact Nat.lt_of_lt_of_le (h.kl j g) s
  ·exact g.2
theorem H1.mono {K':Nat->Prop} (h:H1 T w0 K w H d S) (hk:∀ j,K' j->K j) (ho:∀ j,j<w0.heap.size->K' j):H1 T w0 K' w H d S:=by
 obtain⟨G,h1,h2⟩:=h.ex
 exact⟨⟨G,h1,fun j hj=>h2 j (hk j hj)⟩,fun j hj=>h.kl j (hk j hj),ho,h.bl⟩
theorem H1.same (V:DFace T) (h:H1 T w0 K w H d S) (hb:Below w.heap.size w w'):H1 T w0 K w' H d S:=(h.step V hb).mono (fun _ hj=>.inl hj) h.old
theorem H1.new (V:DFace T) (room:Int) (w0 w:World) (K:Nat->Prop) (en:En w) (h0:0<=room) (h1:room<=100000) (kl:∀ j,K j->j<w.heap.size) (old:∀ j,j<w0.heap.size->K j) (bl:Below w0.heap.size w0 w) :
  Calls Tryz.prog 5 #[.int .i64 room] w fun e w'=>∃ H,e=.returned (.tuple #[.pointer (some ⟨H,0,none⟩),.nilIface])/\H1 T w0 K w' H (dk0 room) []/\Below w.heap.size w w':=by
 refine (hallNew V room en h0 h1).mono ?_
 rintro e w' ⟨H,G,rfl,hl,lo,hb⟩
 exact⟨H,rfl,⟨⟨G,hl,fun j hj q=>by have:=kl j hj;have:=lo j q;omega⟩,fun j hj=>Nat.lt_of_lt_of_le (kl j hj) hb.size,old,below_via bl hb⟩,hb⟩
theorem H1.open (V:DFace T) {k:Nat} (who:ByteArray) (h:H1 T w0 K w H d S) (dp:Dp k d) (hk:k<=800) (hw:who.size<=maxLen) (hS:S.length<=1000) :
  Calls Tryz.prog 43 #[.pointer (some ⟨H,0,none⟩),.string who] w fun e w'=>e=.returned (ev (hoF d S who))/\H1 T w0 K w' H (hoD d S who) (hoS d S who)/\But (fun j=>¬ K j) w w':=by
 obtain⟨G,h1,h2⟩:=h.ex
 refine (hallOpen V h1 dp.ok (dp.sm (by omega)) who hw hS).mono ?_
 rintro e w' ⟨rfl,hp⟩
 exact⟨rfl,h.op h2 hp⟩
theorem H1.ask (V:DFace T) {k:Nat} (who:ByteArray) (c:Cl) (h:H1 T w0 K w H d S) (dp:Dp k d) (hk:k<=800) (hw:who.size<=maxLen) :
  Calls Tryz.prog 52 #[.pointer (some ⟨H,0,none⟩),.string who,clV c] w fun e w'=>∃ u,e=.returned (.tuple #[anV (haA d S who c) u,ev (haF d S who c)])/\w'.ownsRow w.heap.size 105 2 u (haA d S who c).l.length (pfV (haA d S who c).l)/\H1 T w0 (fun j=>K j \/ u.ownBlock=some j) w' H (haD d S who c) S/\But (fun j=>¬ K j) w w':=by
 obtain⟨G,h1,h2⟩:=h.ex
 refine (hallAsk V h1 dp.ok (dp.sm (by omega)) who hw c).mono ?_
 rintro e w' ⟨u,rfl,row,G',g1,g2,g3,g4⟩
 obtain⟨q1,q2⟩:=h.op h2 ⟨G',g1,g2,g3⟩
 have s:=g3.size
 refine⟨u,rfl,row,⟨⟨G',g1,fun j hj q=>?_⟩,fun j hj=>?_,fun j hj=>.inl (h.old j hj),q1.bl⟩,q2⟩
 ·rcases hj with g|g
  ·rcases g2 j q with z|z
   ·exact h2 j g z
   ·have:=h.kl j g
    have:=z.1
    omega
  ·exact g4 j g q
 ·rcases hj with g|g
  ·exact Nat.lt_of_lt_of_le (h.kl j g) s
  ·exact (row.lt j g).2
theorem H1.close (V:DFace T) {k:Nat} (who:ByteArray) (h:H1 T w0 K w H d S) (dp:Dp k d) (hk:k<=800) (hw:who.size<=maxLen) :
  Calls Tryz.prog 46 #[.pointer (some ⟨H,0,none⟩),.string who] w fun e w'=>e=.returned (.tuple #[.int .i64 (hcN d S who),ev (hcF d S who)])/\H1 T w0 K w' H (hcD d S who) (sDel S who)/\But (fun j=>¬ K j) w w':=by
 obtain⟨G,h1,h2⟩:=h.ex
 refine (hallClose V h1 dp.ok (dp.sm (by omega)) dp.spz who hw).mono ?_
 rintro e w' ⟨rfl,hp⟩
 exact⟨rfl,h.op h2 hp⟩
theorem H1.quit (V:DFace T) {k:Nat} (who:ByteArray) (h:H1 T w0 K w H d S) (dp:Dp k d) (hk:k<=800) (hw:who.size<=maxLen) :
  Calls Tryz.prog 44 #[.pointer (some ⟨H,0,none⟩),.string who] w fun e w'=>e=.returned (ev (hqF d S who))/\H1 T w0 K w' H (hqD d S who) (sDel S who)/\But (fun j=>¬ K j) w w':=by
 obtain⟨G,h1,h2⟩:=h.ex
 refine (hallQuit V h1 dp.ok (dp.sm (by omega)) who hw).mono ?_
 rintro e w' ⟨rfl,hp⟩
 exact⟨rfl,h.op h2 hp⟩
end
end Go.Proofs.YtcjdoeclblhaeaaGreatDoor.Pa
namespace Go.Proofs.YtcjdoeclblhaeaaGreatDoor.Pa
open Go.RowKit Go.Maps Go.WideShapes Go.ChangeMaps Vs
section
variable {T:Td} {w w':World} {G F:Nat->Prop} {H B M n:Nat} {D:DataW Value} {d:Dk} {S:Ses}
theorem hallFlush (V:DFace T) (h:Hl T w G H d S) (ok:OkD d) (sm:Sm d) :
  Calls Tryz.prog 38 #[.pointer (some ⟨H,0,none⟩)] w fun e w'=>e=.returned (ev (flF d))/\Hp T G H w w' (flD d) S:=by
 obtain⟨F,B,M,n,D,hx⟩:=h
 have c0:=hx.hh.c0
 have K:Calls Tryz.prog 64 #[.pointer (some ⟨B,0,none⟩)] w fun e w'=>e=.returned (ev (flF d))/\Dj T F w w' B (flD d):=(V.flush hx.ds.t ok sm hx.ds.lt).mono (fun e w' q=>⟨q.1,Dj.of hx.ds q.2.1 (fun j hj=>hj) q.2.2⟩)
 generalize ev (flF d)=vf at K ⊢
 generalize flD d=d2 at K ⊢
 go_enter Tryz.func38,Tryz.ntmps38
 go_wp2_with (go_at_call 64;refine K.mono ?_;clear K;rintro e w1 ⟨rfl,dj⟩)
 go_ret
 obtain⟨F2,q1,q2⟩:=dj.ex
 exact⟨rfl,hx.desk q1 q2 dj.bt⟩
theorem hallFail (V:DFace T) (h:Hl T w G H d S) (ok:OkD d) (sm:Sm d) (m:Int) (n0 : -9223372036854775808<=m) (n1:m<=9223372036854775807) :
  Calls Tryz.prog 49 #[.pointer (some ⟨H,0,none⟩),.int .i64 m] w fun e w'=>e=.returned (.tuple #[])/\Hp T G H w w' (fdD d m) S:=by
 obtain⟨F,B,M,n,D,hx⟩:=h
 have c0:=hx.hh.c0
 have K:Calls Tryz.prog 79 #[.pointer (some ⟨B,0,none⟩),.int .i64 m] w fun e w'=>e=.returned (.tuple #[])/\Dj T F w w' B (fdD d m):=(V.fail m n0 n1 hx.ds.t ok sm hx.ds.lt).mono (fun e w' q=>⟨q.1,Dj.of hx.ds q.2.1 (fun j hj=>hj) q.2.2⟩)
 generalize fdD d m=d2 at K ⊢
 go_enter Tryz.func49,Tryz.ntmps49
 go_wp2_with (go_at_call 79;refine K.mono ?_;clear K;rintro e w1 ⟨rfl,dj⟩)
 go_end0
 obtain⟨F2,q1,q2⟩:=dj.ex
 exact⟨rfl,hx.desk q1 q2 dj.bt⟩
theorem hallSafe (V:DFace T) (h:Hl T w G H d S) (ok:OkD d) (sm:Sm d) :
  Calls Tryz.prog 40 #[.pointer (some ⟨H,0,none⟩)] w fun e w'=>e=.returned (.int .i64 (sfN d))/\Below w.heap.size w w':=by
 obtain⟨F,B,M,n,D,hx⟩:=h
 have c0:=hx.hh.c0
 have K:=V.safe hx.ds.t ok sm
 go_enter Tryz.func40,Tryz.ntmps40
 go_wp2_with (go_at_call 66;refine K.mono ?_;clear K;rintro e w1 ⟨rfl,hb⟩)
 go_ret
 exact⟨rfl,hb⟩
theorem hallCrash (V:DFace T) (h:Hl T w G H d S) (ok:OkD d) (sm:Sm d) (m:Int) (n0 : -9223372036854775808<=m) (n1:m<=9223372036854775807) :
  Calls Tryz.prog 47 #[.pointer (some ⟨H,0,none⟩),.int .i64 m] w fun e w'=>e=.returned (.tuple #[])/\Hp T G H w w' (cdD d m) []:=by
 obtain⟨F,B,M,n,D,hx⟩:=h
 have c0:=hx.hh.c0
 have K:Calls Tryz.prog 76 #[.pointer (some ⟨B,0,none⟩),.int .i64 m] w fun e w'=>e=.returned (.tuple #[])/\Dj T F w w' B (cdD d m):=(V.crash m n0 n1 hx.ds.t ok sm hx.ds.lt).mono (fun e w' q=>⟨q.1,Dj.of hx.ds q.2.1 (fun j hj=>hj) q.2.2⟩)
 generalize cdD d m=d2 at K ⊢
 go_enter Tryz.func47,Tryz.ntmps47
 go_wp2_with (go_at_call 76;refine K.mono ?_;clear K;rintro e w1 ⟨rfl,dj⟩;obtain⟨F2,q1,q2⟩:=dj.ex;obtain⟨G2,⟨F3,B3,M3,n3,D3,hx2⟩,hn2,hb2⟩:=hx.desk q1 q2 dj.bt;have m1:=hx2.hh.c1;obtain⟨w5,hclr,own5,hg5,hs5⟩:=run_clearS 43 3 Tryz.underlying43 hx2.mp)
 go_end0
 exact⟨rfl,Hp.then hn2 hb2 (hx2.ses V (grown_butM hg5) own5 SesR.nil List.nodup_nil)⟩
end
end Go.Proofs.YtcjdoeclblhaeaaGreatDoor.Pa
namespace Go.Proofs.YtcjdoeclblhaeaaGreatDoor.Pa
open Go.RowKit Go.Maps Vs
theorem all_few {k:Nat} {d:Dk} (h:Dp k d) (hk:k<=1000):(allP d).length<=1000:=by
 have h1:=allP_len d
 have h2:=h.ok.len
 have h3:=h.wl
 unfold wt at h3
 omega
section
variable {T:Td} {w0 w w':World} {K:Nat->Prop} {H:Nat} {d:Dk} {S:Ses}
theorem H1.flush (V:DFace T) {k:Nat} (h:H1 T w0 K w H d S) (dp:Dp k d) (hk:k<=800) :
  Calls Tryz.prog 38 #[.pointer (some ⟨H,0,none⟩)] w fun e w'=>e=.returned (ev (flF d))/\H1 T w0 K w' H (flD d) S/\But (fun j=>¬ K j) w w':=by
 obtain⟨G,h1,h2⟩:=h.ex
 refine (hallFlush V h1 dp.ok (dp.sm (by omega))).mono ?_
 rintro e w' ⟨rfl,hp⟩
 exact⟨rfl,h.op h2 hp⟩
theorem H1.fail (V:DFace T) {k:Nat} (n:Int) (hn:I6 n) (h:H1 T w0 K w H d S) (dp:Dp k d) (hk:k<=800) :
  Calls Tryz.prog 49 #[.pointer (some ⟨H,0,none⟩),.int .i64 n] w fun e w'=>e=.returned (.tuple #[])/\H1 T w0 K w' H (fdD d n) S/\But (fun j=>¬ K j) w w':=by
 obtain⟨G,h1,h2⟩:=h.ex
 refine (hallFail V h1 dp.ok (dp.sm (by omega)) n hn.1 hn.2).mono ?_
 rintro e w' ⟨rfl,hp⟩
 exact⟨rfl,h.op h2 hp⟩
theorem H1.crash (V:DFace T) {k:Nat} (n:Int) (hn:I6 n) (h:H1 T w0 K w H d S) (dp:Dp k d) (hk:k<=800) :
  Calls Tryz.prog 47 #[.pointer (some ⟨H,0,none⟩),.int .i64 n] w fun e w'=>e=.returned (.tuple #[])/\H1 T w0 K w' H (cdD d n) []/\But (fun j=>¬ K j) w w':=by
 obtain⟨G,h1,h2⟩:=h.ex
 refine (hallCrash V h1 dp.ok (dp.sm (by omega)) n hn.1 hn.2).mono ?_
 rintro e w' ⟨rfl,hp⟩
 exact⟨rfl,h.op h2 hp⟩
theorem hoS_len (d:Dk) (S:Ses) (k:ByteArray):(hoS d S k).length<=S.length+1:=by
 unfold hoS
 split
 ·simp
 ·omega
theorem H1.safe (V:DFace T) {k:Nat} (h:H1 T w0 K w H d S) (dp:Dp k d) (hk:k<=800) :
  Calls Tryz.prog 40 #[.pointer (some ⟨H,0,none⟩)] w fun e w'=>e=.returned (.int .i64 (sfN d))/\Below w.heap.size w w':=by
 obtain⟨G,h1,h2⟩:=h.ex
 exact hallSafe V h1 dp.ok (dp.sm (by omega))
theorem dp_open {k:Nat} (h:Dp k d) (who:ByteArray):Dp (k+1) (hoD d S who):=by
 unfold hoD
 split
 ·exact h.bg
 ·exact h.more
theorem dp_close {k:Nat} (h:Dp k d) (who:ByteArray):Dp (k+1) (hcD d S who):=by
 unfold hcD
 split
 ·exact h.more
 ·exact h.cm _
theorem dp_quit {k:Nat} (h:Dp k d) (who:ByteArray):Dp (k+1) (hqD d S who):=by
 unfold hqD
 split
 ·exact h.more
 ·exact h.del _
theorem dp_ask {k:Nat} (h:Dp k d) (who:ByteArray) (c:Cl):Dp (k+1) (haD d S who c):=by
 unfold haD
 split
 ·exact h.more
 ·exact dp_run h c _
theorem H1.mine (V:DFace T) {E:Nat->Prop} (en:En w0) (h:H1 T w0 K w H d S) (hb:But E w w') (hE:∀ j,E j->K j) (hl:∀ j,E j->w0.heap.size<=j):H1 T w0 (fun j=>K j \/ (w.heap.size<=j/\j<w'.heap.size)) w' H d S:=by
 obtain⟨G,h1,h2⟩:=h.ex
 have s:=hb.size
 refine⟨⟨G,h1.but V hb (fun j hj q=>h2 j (hE j q) hj) (h1.en.but hb (fun j hj q=>by have:=en.lt q;have:=hl j hj;omega)),fun j hj q=>?_⟩,fun j hj=>?_,fun j hj=>.inl (h.old j hj),But.under2 h.bl hb h.bl.size (fun i hi g=>by have:=hl i g;omega)⟩
 ·rcases hj with g|g
  ·exact h2 j g q
  ·have:=h1.lt q
   have:=g.1
   omega
 ·rcases hj with g|g
  ·exact Nat.lt_of_lt_of_le (h.kl j g) s
  ·exact g.2
end
end Go.Proofs.YtcjdoeclblhaeaaGreatDoor.Pa
namespace Go.Proofs.YtcjdoeclblhaeaaGreatDoor.Pa
open Go.RowKit Go.Maps Vs
theorem info_str:(Tryz.prog.info? 9).map (fun i=>(i.zero,i.size,i.bytes))=some (some (.string ByteArray.empty),1,16):=by kernel_rfl
def ntN (k:ByteArray):Option ByteArray:=if k.data.toList.take 2=[110,47] then some (txt (k.data.toList.drop 2)) else none
def ntL (L:List Pr):List ByteArray:=L.filterMap fun p=>ntN p.1
def stV (l:List ByteArray):List Value:=l.map Value.string
theorem ntL_len (L:List Pr):(ntL L).length<=L.length:=List.length_filterMap_le _ _
theorem ntL_take {L:List Pr} {k:Nat} {x:Pr} (hx:L[k]? = some x):ntL (L.take (k+1))=ntL (L.take k)++(ntN x.1).toList:=by
 unfold ntL
 rw[List.take_add_one,hx,List.filterMap_append]
 congr 1
section
variable {T:Td} {w w':World} {G:Nat->Prop} {H:Nat} {d:Dk} {S:Ses}
theorem hallNets (V:DFace T) (h:Hl T w G H d S) (ok:OkD d) (sm:Sm d) (hl:(allP d).length<=1000) :
  Calls Tryz.prog 42 #[.pointer (some ⟨H,0,none⟩)] w fun e w'=>∃ v,e=.returned v/\w'.ownsRow w.heap.size 9 1 v (ntL (allP d)).length (stV (ntL (allP d)))/\Below w.heap.size w w':=by
 obtain⟨F,B,M,n,D,hx⟩:=h
 obtain⟨i0,hi,hz0,hz1,hz2⟩:=info_parts info_str
 have c0:=hx.hh.c0
 have K:=V.all hx.ds.t ok sm
 have KN:=plNetKey ByteArray.empty w (by decide)
 rw[show (⟨(Bur.netK ByteArray.empty.data.toList).toArray⟩:ByteArray)=⟨#[110,47]⟩ from rfl] at KN
 generalize allP d=L at K hl ⊢
 clear ok sm hx
 go_enter Tryz.func42,Tryz.ntmps42
 go_wp2_with (first
  | (go_at_call 68;refine KN.mono ?_;clear KN;rintro e w1 ⟨rfl,hw⟩;have:=hw.symm;subst this)
  | (go_at_call 69;refine K.mono ?_;clear K;rintro e w2 ⟨q,cq,rfl,hcq,pr,hb2⟩))
 have sw:=hb2.size
 go_loopw [4,16] (fun v i wr=>∃ (k:Nat),k<=L.length/\i=.int .i64 k/\wr.ownsRow w2.heap.size 9 1 v (ntL (L.take k)).length (stV (ntL (L.take k)))/\Below w2.heap.size w2 wr) (fun _ i _=>L.length - (intOf i).toNat)
 case atStart=>exact⟨0,by omega,rfl,World.ownsRow_nil _ _ _ _,below_self _⟩
 case round=>
  obtain⟨k,hk,rfl,hown,hb⟩:=hrel
  have sz:=hb.size
  by_cases hlt:k<L.length
  ·have hlt':(k:Int)<(L.length:Int):=by omega
   obtain⟨x,hx⟩:∃ x,L[k]? = some x:=⟨L[k],List.getElem?_eq_getElem hlt⟩
   obtain⟨b,off,rfl,hbl,hc⟩:=(pr.at.step hb) (by omega)
   obtain⟨d0,d1⟩:=hc k x hx
   have hln:=ntL_len (L.take k)
   rw[List.length_take] at hln
   have KC:=fun W=>cutPre x.1.data.toList 110 W
   rw[show (⟨x.1.data.toList.toArray⟩:ByteArray)=x.1 by cases x.1;simp] at KC
   have hnt:=ntL_take hx
   have bA:=below_al hb (.cells #[.string x.1,.string x.2] 141)
   have rA:=hown.alloc (.cells #[.string x.1,.string x.2] 141)
   unfold ntN at hnt
   by_cases ht:x.1.data.toList.take 2=[110,47]
   ·have KD:=KC
    rw[if_pos ht,decide_eq_true ht] at KD
    rw[if_pos ht] at hnt
    have HT:Hid _:=hnt
    obtain⟨nm,hnm⟩:∃ nm:ByteArray,nm=txt (x.1.data.toList.drop 2):=⟨_,rfl⟩
    rw[show (⟨(x.1.data.toList.drop 2).toArray⟩:ByteArray)=nm from hnm.symm] at KD
    rw[<- hnm] at HT
    clear hnt ht KC hnm hc hx
    go_wp2_with (first
     | (go_at_call 70;refine (KD _).mono ?_;rintro e w3 ⟨rfl,hw⟩;have:=hw.symm;subst this)
     | (at_builtin;refine wpList_append_own _ rfl _ _ 53 rfl w2.heap.size 9 i0 (.string ByteArray.empty) 1 16 Tryz.underlying53 hi hz0 hz1 hz2 rfl (by decide) _ _ _ rfl (rA.alloc _) ⟨wr.heap.size+1,0,none⟩ 1 1 [.string nm] rfl rfl ?c1 ?c2 ?c3 ?c4 ?c5 ?_))
    case c1=>
     intro j u hj
     match j,hj with
     | 0,hj=>simp at hj;subst hj;simp[Addr.add]
    case c2=>intro u hu;simp at hu;subst hu;rfl
    case c3=>unfold maxLen;omega
    case c4=>omega
    case c5=>simp;omega
    intro v' w4 hown' hgrow _
    have hb4:Below w2.heap.size w2 w4:=(below_al bA _).grown hgrow (by simp;omega) (fun j hj=>(hown.lt j hj).1)
    clear hown hgrow rA bA d0 d1
    go_wp2_with fail
    refine⟨⟨k+1,by omega,by go_num,?_,hb4⟩,by simp[intOf];omega⟩
    rw[HT.out]
    simpa [stV] using hown'
   ·rw[if_neg ht,decide_eq_false ht] at KC
    rw[if_neg ht] at hnt
    have HT:Hid _:=hnt
    clear hnt ht hc hx
    go_wp2_with (go_at_call 70;refine (KC _).mono ?_;rintro e w3 ⟨rfl,hw⟩;have:=hw.symm;subst this)
    refine⟨⟨k+1,by omega,by go_num,?_,bA⟩,by simp[intOf];omega⟩
    rw[HT.out]
    simpa using rA
  ·have hke:k=L.length:=by omega
   subst hke
   rw[List.take_length] at hown
   go_wp2_with fail
   go_ret
   exact⟨_,rfl,ownMono sw hown,below_via hb2 hb⟩
end
end Go.Proofs.YtcjdoeclblhaeaaGreatDoor.Pa
namespace Go.Proofs.YtcjdoeclblhaeaaGreatDoor.Rn
open Go Vs
theorem own_v {d:Dk} (ok:OkD d) {o:Ox} (ho:o∈d.op) {c:Chg} (hc:c∈o.own):c.v.size<=12:=by
 exact (chW_ok ((chF_ok (ok.op o ho).own).2 c hc)).2.2.1
theorem seeO_v {d:Dk} (ok:OkD d) {o:Ox} (ho:o∈d.op) {k v:ByteArray} (h:seeO d.vs o.sees o.own k=some v):v.size<=12:=by
 unfold seeO at h
 cases e:ownC o.own k with
 | some c=>
  rw[e] at h
  simp only at h
  split at h
  ·cases h
  ·injection h with h
   rw[<- h]
   exact own_v ok ho (ownC_some e).1
 | none=>
  rw[e] at h
  obtain⟨y,hy,_,rfl⟩:=vget_some.1 h
  have:=(ok.tb.each y (see_some hy).1).1
  exact this.2.2.1
theorem dgS_v {d:Dk} (ok:OkD d) (i:Int) (k:ByteArray):(dgS d i k).size<=12:=by
 unfold dgS
 cases e:opI d i with
 | none=>exact Nat.zero_le _
 | some o=>
  simp only
  split
  ·split
   ·exact Nat.zero_le _
   ·cases q:seeO d.vs o.sees o.own k with
    | none=>exact Nat.zero_le _
    | some v=>exact seeO_v ok (opI_some e).1 q
  ·exact Nat.zero_le _
theorem fold_mem {m:List Chg}:∀ {r:List Pr} {p:Pr},p∈m.foldl (fun r x=>insP r (x.k,x.v)) r->p∈r \/ ∃ x∈m,p=(x.k,x.v):=by
 induction m with
 | nil=>exact fun h=>.inl h
 | cons x m ih=>
  intro r p h
  rw[List.foldl_cons] at h
  rcases ih h with q|⟨y,hy,q⟩
  ·rcases mem_insP.1 q with e|e
   ·exact .inr ⟨x,by simp,e⟩
   ·exact .inl e
  ·exact .inr ⟨y,by simp[hy],q⟩
theorem drS_v {d:Dk} (ok:OkD d) (i:Int) (lo hi:ByteArray):∀ p∈drS d i lo hi,p.2.size<=12:=by
 intro p hp
 unfold drS at hp
 cases e:opI d i with
 | none=>rw[e] at hp;cases hp
 | some o=>
  rw[e] at hp
  simp only at hp
  split at hp
  ·cases hp
  ·unfold rngO at hp
   rcases fold_mem hp with q|⟨x,hx,q⟩
   ·have q1:=(List.mem_filter.1 q).1
    have q2:=(((vrng_is ok.tb lo hi o.sees).2 p).1 q1).2
    obtain⟨y,hy,_,h3⟩:=vget_some.1 q2
    have:=(ok.tb.each y (see_some hy).1).1
    rw[<- h3]
    exact this.2.2.1
   ·rw[q]
    exact own_v ok (opI_some e).1 (List.mem_filter.1 hx).1
def Few (a:An):Prop:=a.l.length<=1000/\a.ow.size<=12
def Rt:Pg->Prop
 | .ret a _=>Few a
 | _=>False
def Fw:Pg->Nat->Prop
 | .ret a _,_=>Few a
 | .get _ K,m=>∃ n,m=n+1 /\ ∀ v f,v.size<=12->Fw (K v f) n
 | .rng lo _ K,m=>∃ n,m=n+1/\lo.size<9223372036854775807 /\ ∀ l f,l.length<=1000->(∀ x∈l,x.2.size<=12)->Fw (K l f) n
 | .chg _ K,_=>∀ f,Rt (K f)
theorem run_rt:∀ {g:Pg} (d:Dk) (i:Int),Rt g->Few (runA g d i)
 | .ret _ _,_,_,h=>h
 | .get _ _,_,_,h=>h.elim
 | .rng _ _ _,_,_,h=>h.elim
 | .chg _ _,_,_,h=>h.elim
theorem run_fw:∀ (g:Pg) (m k:Nat) (d:Dk) (i:Int),Fw g m->Dp k d->k+m<=1000->Few (runA g d i)
 | .ret _ _,_,_,_,_,h,_,_=>h
 | .get q K,m,k,d,i,h,dp,hk=>by
  obtain⟨n,rfl,h⟩:=h
  exact run_fw (K (dgS d i q) (dgF d i q)) n (k+1) (dgD d i q) i (h _ _ (dgS_v dp.ok i q)) (dp.dg i q) (by omega)
 | .rng lo hi K,m,k,d,i,h,dp,hk=>by
  obtain⟨n,rfl,hlo,h⟩:=h
  have h1:=drS_len dp.ok i lo hi
  have h2:=dp.wl
  exact run_fw (K (drS d i lo hi) (drF d i)) n (k+1) (drD d i lo hi) i (h _ _ (by omega) (drS_v dp.ok i lo hi)) (dp.dr i lo hi hlo) (by omega)
 | .chg c K,_,_,d,i,h,_,_=>run_rt (g:=K (dcF d i c)) (dcD d i c) i (h _)
theorem few0:Few an0:=⟨by decide,by decide⟩
theorem fw_asks {k:ByteArray} {K:ByteArray->Bool->Pg} {m:Nat} (h:∀ v b,v.size<=12->Fw (K v b) m):Fw (asks k K) (m+1):=⟨m,rfl,fun v f hv=>by
 show Fw (if f=4 then K ByteArray.empty false else if f=0 then K v true else err f) m
 by_cases h4:f=4
 ·rw[if_pos h4];exact h _ _ (by decide)
 ·rw[if_neg h4]
  by_cases h5:f=0
  ·rw[if_pos h5];exact h _ _ hv
  ·rw[if_neg h5];exact few0⟩
theorem lots_v {l:List Pr} (h:∀ x∈l,x.2.size<=12):∀ o∈lots l,o.2.size<=12:=by
 intro o ho
 unfold lots at ho
 obtain⟨p,hp,e⟩:=List.mem_filterMap.1 ho
 obtain⟨s,_,rfl⟩:=Option.map_eq_some_iff.1 e
 exact h p hp
theorem lo_len (c:UInt8) (n:ByteArray) (h:n.size<=8):(loK c n).size<9223372036854775807:=by
 have e:n.data.toList.length=n.size:=Array.length_toList
 show ([c,47]++n.data.toList ++ [47]).toArray.size<_
 simp[e]
 omega
theorem fw_allL {n:ByteArray} (hn:n.size<=8) {K:List Lot->Pg} {m:Nat} (h:∀ l,l.length<=1000->(∀ o∈l,o.2.size<=12)->Fw (K l) m):Fw (allL n K) (m+1):=⟨m,rfl,lo_len _ _ hn,fun l f hl hv=>by
 show Fw (if f=0 then K (lots l) else err f) m
 by_cases h5:f=0
 ·rw[if_pos h5];exact h _ (Nat.le_trans (List.length_filterMap_le _ _) hl) (lots_v hv)
 ·rw[if_neg h5];exact few0⟩
theorem fw_allA {n:ByteArray} (hn:n.size<=8) {K:List Int->Pg} {m:Nat} (h:∀ l,Fw (K l) m):Fw (allA n K) (m+1):=⟨m,rfl,lo_len _ _ hn,fun l f _ _=>by
 show Fw (if f=0 then K (plcd l) else err f) m
 by_cases h5:f=0
 ·rw[if_pos h5];exact h _
 ·rw[if_neg h5];exact few0⟩
theorem fw_puts {k v:ByteArray} {a:An} {m:Nat} (h:Few a):Fw (puts k v a) m:=fun f=>by
 show Rt (if f=0 then .ret a 0 else err f)
 by_cases h5:f=0
 ·rw[if_pos h5];exact h
 ·rw[if_neg h5];exact few0
theorem fw_drops {k:ByteArray} {m:Nat}:Fw (drops k) m:=fun _=>few0
theorem fw_allW {c:Cl} (hn:c.nm.size<=8) {K:List Lot->Pg} {m:Nat} (h:∀ l,l.length<=1000->Fw (K l) m):Fw (allW c K) (m+1):=fw_allL hn (fun l hl _=>by
 by_cases h5:c.p∈l.map Prod.fst
 ·rw[if_pos h5];exact h _ hl
 ·rw[if_neg h5];exact few0)
theorem fw_do (c:Cl):Fw (doP c) 5:=by
 unfold doP
 by_cases hcl:clF c=0
 ·have hn:=(clF_in hcl).2.2
  rw[if_pos hcl]
  unfold pWork
  refine fw_asks (fun _ b _=>?_)
  split
  ·unfold pNet
   split
   ·exact few0
   ·exact fw_puts few0
  ·split
   ·exact few0
   ·split
    ·refine fw_asks (fun _ b _=>?_)
     split
     ·exact few0
     ·exact fw_puts few0
    ·split
     ·refine fw_asks (fun _ b _=>?_)
      split
      ·refine fw_allL hn (fun l _ _=>fw_allA hn (fun u=>?_))
       split
       ·exact few0
       ·exact fw_drops
      ·exact few0
     ·split
      ·refine fw_allL hn (fun l _ _=>fw_asks (fun _ b _=>?_))
       split
       ·exact few0
       ·split
        ·exact few0
        ·exact fw_puts few0
      ·split
       ·refine fw_asks (fun _ b _=>?_)
        split
        ·exact fw_drops
        ·exact few0
       ·split
        ·refine fw_allW hn (fun l _=>?_)
         split
         ·split
          ·exact few0
          ·exact fw_puts ⟨Nat.zero_le 1000,Nat.zero_le 12⟩
         ·exact few0
        ·split
         ·refine fw_allW hn (fun l _=>fw_allA hn (fun u=>?_))
          split
          ·exact fw_puts ⟨Nat.zero_le 1000,Nat.zero_le 12⟩
          ·exact few0
         ·split
          ·refine fw_allL hn (fun l hl _=>?_)
           exact⟨by simpa using hl,Nat.zero_le 12⟩
          ·refine fw_asks (fun v b hv=>?_)
           split
           ·exact⟨Nat.zero_le 1000,hv⟩
           ·refine fw_allL hn (fun l _ hv2=>?_)
            cases e:(hav l c.ad).getLast? with
            | none=>exact few0
            | some o=>
             exact⟨Nat.zero_le 1000,hv2 o (List.mem_filter.1 (List.mem_of_getLast? e)).1⟩
 ·rw[if_neg hcl];exact few0
end Go.Proofs.YtcjdoeclblhaeaaGreatDoor.Rn
