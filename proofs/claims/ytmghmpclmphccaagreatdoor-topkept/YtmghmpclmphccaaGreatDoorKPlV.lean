/- -/
import Derived.Test.YtmghmpclmphccaaGreatDoorKPlR
import Derived.Test.YtmghmpclmphccaaGreatDoorKMpHeld
import Derived.Test.YtmghmpclmphccaaGreatDoorKDcA
import Derived.Test.YtmghmpclmphccaaGreatDoorKVsMath
import Derived.Test.YtmghmpclmphccaaGreatDoorKVsBase
set_option maxHeartbeats 8000000
set_option maxRecDepth 100000
namespace Go.Proofs.YtmghmpclmphccaaGreatDoor.Pa
open Go.RowKit Go.Maps Vs
section
variable {T:Td} {w:World} {F:Nat->Prop} {B:Nat} {d:Dk}
theorem plDo1 (V:DFace T) (c:Cl) (i:Int) (h:Ds T w F B d) (ok:OkD d) (sm:Sm d) (hcl:clF c=0) :
  Calls Tryz.prog 63 #[wkV B c i] w fun e w'=>DoPost T F w B (runD (pWork c) d i) (runA (pWork c) d i) (runF (pWork c) d i) e w':=by
 obtain⟨_,_,hnm⟩:=clF_in hcl
 have hn:c.nm.size<=1000:=by omega
 obtain⟨W,hW⟩:∃ W,W=(w.alloc (.cells (wkA B c i) 130)).alloc (.cells #[.int .i64 0,.int .i64 0,.int .i64 0,.string ⟨#[]⟩,.slice none 0 0] 46):=⟨_,rfl⟩
 have bW:Below w.heap.size w W:=by rw[hW];exact below_al (below_al (below_self w) _) _
 obtain⟨bb,hbb⟩:∃ bb,bb=w.heap.size:=⟨_,rfl⟩
 have wk:Wk W bb B c i:=by rw[hW,hbb];exact (Wk.new w B c i 130).step (below_al (below_self _) _)
 have ab:Ab W (bb+1) (.int .i64 0) (.int .i64 0) (.int .i64 0) (.string ⟨#[]⟩) (.slice none 0 0):=by
  have:=Ab.new (w.alloc (.cells (wkA B c i) 130)) (.int .i64 0) (.int .i64 0) (.int .i64 0) (.string ⟨#[]⟩) (.slice none 0 0) 46
  rw[World.size_alloc] at this
  rw[hW,hbb];exact this
 have hW1:=h.step V bW
 have KK:=fun W'=>plNetKey c.nm W' hn
 rw[show (⟨(Bur.netK c.nm.data.toList).toArray⟩:ByteArray)=kN c.nm from rfl] at KK
 have KF:=fun w3 (b3:Below W.heap.size W w3)=>plFind V c i (kN c.nm) (hW1.step V b3) ok sm (by rw[kN_size];unfold maxLen;omega)
 have hbx:¬ F bb:=fun q=>by have:=h.lt _ q;omega
 have hby:¬ F (bb+1):=fun q=>by have:=h.lt _ q;omega
 have rel:∀ w3 w4,Below W.heap.size W w3->Dj T F w3 w4 B (dgD d i (kN c.nm))->Wk w4 bb B c i -> ∃ F4,Ds T w4 F4 B (dgD d i (kN c.nm))/\(∀ j,F4 j->Nw F w w4 j)/\But F w w4/\Wk w4 bb B c i/\Ab w4 (bb+1) (.int .i64 0) (.int .i64 0) (.int .i64 0) (.string ⟨#[]⟩) (.slice none 0 0) /\ ¬ F4 (bb+1):=fun w3 w4 b3 hj4 wk4=>by
  obtain⟨F4,h4,hn4⟩:=hj4.ex
  have s1:=bW.size
  have s3:=b3.size
  have s4:=hj4.bt.size
  have l1:=ab.lt
  have e1:But F w w3:=.below (below_via bW b3)
  refine⟨F4,h4,fun j hj=>?_,e1.trans hj4.bt,wk4,(ab.step b3).but hj4.bt hby,fun q=>?_⟩
  ·rcases hn4 j hj with g|g
   ·exact .inl g
   ·exact .inr ⟨by have:=g.1;omega,g.2⟩
  ·rcases hn4 _ q with g|g
   ·exact hby g
   ·have:=g.1;omega
 have okg:=ok.dg i (kN c.nm)
 have smg:=Sm.dg sm ok i (kN c.nm)
 rw[pWork_is]
 rcases find_cases (d:=d) i (kN c.nm) with ⟨f1,f2,f3,f4⟩|⟨f1,f2,f3,f4⟩|⟨f0,f1,f2,f3⟩
 ·obtain⟨a1,a2,a3⟩:=asks_no (d:=d) (i:=i) (k:=kN c.nm) (K:=fun _ is=>pBody c is) f1
  rw[a1,a2,a3]
  rw[f2,f3,ev_0] at KF
  obtain⟨SS,hSS⟩:∃ SS,Hid (SS=fnS d i (kN c.nm)):=⟨_,rfl⟩
  rw[<- hSS.out] at KF
  have REL:Hid _:=rel
  clear rel a1 a2 a3 f1 f2 f3 f4 hW1
  go_enter Tryz.func63,Tryz.ntmps63
  go_upto_region 1 with fail
  rw[<- hW]
  rw[<- hbb]
  have HBB:Hid (bb=w.heap.size):=hbb
  clear hW bW hbb
  go_cut [3,4,5] from 6 to 15 (fun s3 s4 s5 wy=>∃ F4,s3=.nilIface/\s4=.string SS/\s5=.bool false/\Ds T wy F4 B (dgD d i (kN c.nm))/\(∀ j,F4 j->Nw F w wy j)/\But F w wy/\Wk wy bb B c i/\Ab wy (bb+1) (.int .i64 0) (.int .i64 0) (.int .i64 0) (.string ⟨#[]⟩) (.slice none 0 0) /\ ¬ F4 (bb+1))
  case first=>
   obtain⟨k0,k1,k2,k3,k4,k5,k6,k7,k8⟩:=id wk
   go_region_held3 (fun wy=>wy.cell? ⟨bb,0,none⟩=some (.pointer (some ⟨B,0,none⟩))/\wy.cell? ⟨bb,1,none⟩=some (.int .i64 c.what)/\wy.cell? ⟨bb,2,none⟩=some (.string c.nm)/\wy.cell? ⟨bb,3,none⟩=some (.int .i64 c.p.1)/\wy.cell? ⟨bb,4,none⟩=some (.int .i64 c.p.2)/\wy.cell? ⟨bb,5,none⟩=some (.int .i64 c.len)/\wy.cell? ⟨bb,6,none⟩=some (.int .i64 c.ad)/\wy.cell? ⟨bb,7,none⟩=some (.string c.ow)/\wy.cell? ⟨bb,8,none⟩=some (.int .i64 i))
    (first|exact⟨wk4.c0,wk4.c1,wk4.c2,wk4.c3,wk4.c4,wk4.c5,wk4.c6,wk4.c7,wk4.c8⟩|exact⟨wk3.c0,wk3.c1,wk3.c2,wk3.c3,wk3.c4,wk3.c5,wk3.c6,wk3.c7,wk3.c8⟩|exact⟨k0,k1,k2,k3,k4,k5,k6,k7,k8⟩)
    (first
     | (go_at_call 96;refine (KK _).mono ?_;clear KK;rintro e w3 ⟨rfl,hw3⟩;have wk3:Wk w3 bb B c i:=(by rw[hw3];exact wk.step (below_self W).drew);have b3:Below W.heap.size W w3:=(by rw[hw3];exact (below_self W).drew);have KF1:=KF w3 b3;clear hw3)
     | (go_at_call 95;refine KF1.mono ?_;clear KF1;rintro e w4 ⟨rfl,hj4⟩;have wk4:Wk w4 bb B c i:=wk3.but hj4.bt hbx))
   all_goals (
    go_wp2_with fail
    go_meet)
   case rel=>
    obtain⟨F4,hh⟩:=REL.out w3 w4 b3 hj4 wk4
    exact⟨F4,rfl,rfl,rfl,hh⟩
  case rest=>
   obtain⟨F4,rfl,rfl,rfl,h4,hN4,hB4,wk4,ab4,n4⟩:=hcut
   obtain rfl:=HBB.out
   refine ‹∀ (a:Act) (w:World),Code.wp _ _ _ a w->_› _ _ ?_
   exact plDo2 V c i false h.en h4 okg smg hcl wk4 ab4 n4 hN4 hB4
 ·obtain⟨a1,a2,a3⟩:=asks_yes (d:=d) (i:=i) (k:=kN c.nm) (K:=fun _ is=>pBody c is) f1
  rw[a1,a2,a3]
  rw[f2,f3,ev_0] at KF
  obtain⟨SS,hSS⟩:∃ SS,Hid (SS=fnS d i (kN c.nm)):=⟨_,rfl⟩
  rw[<- hSS.out] at KF
  have REL:Hid _:=rel
  clear rel a1 a2 a3 f1 f2 f3 f4 hW1
  go_enter Tryz.func63,Tryz.ntmps63
  go_upto_region 1 with fail
  rw[<- hW]
  rw[<- hbb]
  have HBB:Hid (bb=w.heap.size):=hbb
  clear hW bW hbb
  go_cut [3,4,5] from 6 to 15 (fun s3 s4 s5 wy=>∃ F4,s3=.nilIface/\s4=.string SS/\s5=.bool true/\Ds T wy F4 B (dgD d i (kN c.nm))/\(∀ j,F4 j->Nw F w wy j)/\But F w wy/\Wk wy bb B c i/\Ab wy (bb+1) (.int .i64 0) (.int .i64 0) (.int .i64 0) (.string ⟨#[]⟩) (.slice none 0 0) /\ ¬ F4 (bb+1))
  case first=>
   obtain⟨k0,k1,k2,k3,k4,k5,k6,k7,k8⟩:=id wk
   go_region_held3 (fun wy=>wy.cell? ⟨bb,0,none⟩=some (.pointer (some ⟨B,0,none⟩))/\wy.cell? ⟨bb,1,none⟩=some (.int .i64 c.what)/\wy.cell? ⟨bb,2,none⟩=some (.string c.nm)/\wy.cell? ⟨bb,3,none⟩=some (.int .i64 c.p.1)/\wy.cell? ⟨bb,4,none⟩=some (.int .i64 c.p.2)/\wy.cell? ⟨bb,5,none⟩=some (.int .i64 c.len)/\wy.cell? ⟨bb,6,none⟩=some (.int .i64 c.ad)/\wy.cell? ⟨bb,7,none⟩=some (.string c.ow)/\wy.cell? ⟨bb,8,none⟩=some (.int .i64 i))
    (first|exact⟨wk4.c0,wk4.c1,wk4.c2,wk4.c3,wk4.c4,wk4.c5,wk4.c6,wk4.c7,wk4.c8⟩|exact⟨wk3.c0,wk3.c1,wk3.c2,wk3.c3,wk3.c4,wk3.c5,wk3.c6,wk3.c7,wk3.c8⟩|exact⟨k0,k1,k2,k3,k4,k5,k6,k7,k8⟩)
    (first
     | (go_at_call 96;refine (KK _).mono ?_;clear KK;rintro e w3 ⟨rfl,hw3⟩;have wk3:Wk w3 bb B c i:=(by rw[hw3];exact wk.step (below_self W).drew);have b3:Below W.heap.size W w3:=(by rw[hw3];exact (below_self W).drew);have KF1:=KF w3 b3;clear hw3)
     | (go_at_call 95;refine KF1.mono ?_;clear KF1;rintro e w4 ⟨rfl,hj4⟩;have wk4:Wk w4 bb B c i:=wk3.but hj4.bt hbx))
   all_goals (
    go_wp2_with fail
    go_meet)
   case rel=>
    obtain⟨F4,hh⟩:=REL.out w3 w4 b3 hj4 wk4
    exact⟨F4,rfl,rfl,rfl,hh⟩
  case rest=>
   obtain⟨F4,rfl,rfl,rfl,h4,hN4,hB4,wk4,ab4,n4⟩:=hcut
   obtain rfl:=HBB.out
   refine ‹∀ (a:Act) (w:World),Code.wp _ _ _ a w->_› _ _ ?_
   exact plDo2 V c i true h.en h4 okg smg hcl wk4 ab4 n4 hN4 hB4
 ·obtain⟨a1,a2,a3⟩:=asks_err (d:=d) (i:=i) (k:=kN c.nm) (K:=fun _ is=>pBody c is) f0 f1
  rw[a1,a2,a3]
  rw[f2,f3,ev_ne f1] at KF
  have hEv:Hid (ev (dgF d i (kN c.nm))=errN (dgF d i (kN c.nm))):=ev_ne f1
  obtain⟨SS,hSS⟩:∃ SS,Hid (SS=fnS d i (kN c.nm)):=⟨_,rfl⟩
  rw[<- hSS.out] at KF
  have REL:Hid _:=rel
  clear rel a1 a2 a3 f0 f1 f2 f3 hW1
  go_enter Tryz.func63,Tryz.ntmps63
  go_upto_region 1 with fail
  rw[<- hW]
  rw[<- hbb]
  have HBB:Hid (bb=w.heap.size):=hbb
  clear hW bW hbb
  go_cut [3,4,5] from 6 to 15 (fun s3 s4 s5 wy=>∃ F4,s3=errN (dgF d i (kN c.nm))/\s4=.string SS/\s5=.bool false/\Ds T wy F4 B (dgD d i (kN c.nm))/\(∀ j,F4 j->Nw F w wy j)/\But F w wy/\Wk wy bb B c i/\Ab wy (bb+1) (.int .i64 0) (.int .i64 0) (.int .i64 0) (.string ⟨#[]⟩) (.slice none 0 0) /\ ¬ F4 (bb+1))
  case first=>
   obtain⟨k0,k1,k2,k3,k4,k5,k6,k7,k8⟩:=id wk
   go_region_held3 (fun wy=>wy.cell? ⟨bb,0,none⟩=some (.pointer (some ⟨B,0,none⟩))/\wy.cell? ⟨bb,1,none⟩=some (.int .i64 c.what)/\wy.cell? ⟨bb,2,none⟩=some (.string c.nm)/\wy.cell? ⟨bb,3,none⟩=some (.int .i64 c.p.1)/\wy.cell? ⟨bb,4,none⟩=some (.int .i64 c.p.2)/\wy.cell? ⟨bb,5,none⟩=some (.int .i64 c.len)/\wy.cell? ⟨bb,6,none⟩=some (.int .i64 c.ad)/\wy.cell? ⟨bb,7,none⟩=some (.string c.ow)/\wy.cell? ⟨bb,8,none⟩=some (.int .i64 i))
    (first|exact⟨wk4.c0,wk4.c1,wk4.c2,wk4.c3,wk4.c4,wk4.c5,wk4.c6,wk4.c7,wk4.c8⟩|exact⟨wk3.c0,wk3.c1,wk3.c2,wk3.c3,wk3.c4,wk3.c5,wk3.c6,wk3.c7,wk3.c8⟩|exact⟨k0,k1,k2,k3,k4,k5,k6,k7,k8⟩)
    (first
     | (go_at_call 96;refine (KK _).mono ?_;clear KK;rintro e w3 ⟨rfl,hw3⟩;have wk3:Wk w3 bb B c i:=(by rw[hw3];exact wk.step (below_self W).drew);have b3:Below W.heap.size W w3:=(by rw[hw3];exact (below_self W).drew);have KF1:=KF w3 b3;clear hw3)
     | (go_at_call 95;refine KF1.mono ?_;clear KF1;rintro e w4 ⟨rfl,hj4⟩;have wk4:Wk w4 bb B c i:=wk3.but hj4.bt hbx))
   all_goals (
    go_wp2_with fail
    go_meet)
   case rel=>
    obtain⟨F4,hh⟩:=REL.out w3 w4 b3 hj4 wk4
    exact⟨F4,rfl,rfl,rfl,hh⟩
  case rest=>
   obtain⟨F4,rfl,rfl,rfl,h4,hN4,hB4,wk4,ab4,n4⟩:=hcut
   have hbb:=HBB.out
   obtain⟨a0,a1,a2,a3,a4,af0,af1,af2,af3,af4⟩:=id ab4
   have FIN:=fun {wf:World} (hb:But (fun j=>j=bb+1) wc wf)=>do_fin (F:=F) (F1:=F4) (w:=w) (wx:=wc) (ab:=bb+1) V h.en hB4 hN4 h4 (fun _ hj=>.inl hj) (But.refl _ _) (by omega) ab4.lt n4 hb
   have FH:Hid _:=@FIN
   clear FIN hbb
   go_wp2_with fail
   exact bodyPost_ret (v:=.tuple #[anV an0 (.slice none 0 0),errN (dgF d i (kN c.nm))]) (by simp[results,Tryz.results63,go_sem,an0,(ab4.all (.int .i64 0) (.int .i64 0) (.int .i64 0) (.string ⟨#[]⟩) (.slice none 0 0)).c0,(ab4.all (.int .i64 0) (.int .i64 0) (.int .i64 0) (.string ⟨#[]⟩) (.slice none 0 0)).c1,(ab4.all (.int .i64 0) (.int .i64 0) (.int .i64 0) (.string ⟨#[]⟩) (.slice none 0 0)).c2,(ab4.all (.int .i64 0) (.int .i64 0) (.int .i64 0) (.string ⟨#[]⟩) (.slice none 0 0)).c3,(ab4.all (.int .i64 0) (.int .i64 0) (.int .i64 0) (.string ⟨#[]⟩) (.slice none 0 0)).c4];rfl) rfl ⟨.slice none 0 0,by rw[hEv.out],F4,(FH.out (but_5 _ (But.refl _ _) _ _ _ _ _)).1,(FH.out (but_5 _ (But.refl _ _) _ _ _ _ _)).2.1,(FH.out (but_5 _ (But.refl _ _) _ _ _ _ _)).2.2,World.ownsRow_nil _ _ _ _,fun j hj=>by cases hj⟩
theorem plDo (V:DFace T) (c:Cl) (i:Int) (h:Ds T w F B d) (ok:OkD d) (sm:Sm d) :
  Calls Tryz.prog 32 #[.pointer (some ⟨B,0,none⟩),.int .i64 i,clV c] w fun e w'=>DoPost T F w B (runD (doP c) d i) (runA (doP c) d i) (runF (doP c) d i) e w':=by
 obtain⟨W,hW⟩:∃ W,W=(w.alloc (.cells (clA c) 33)).alloc (.cells #[.int .i64 0,.int .i64 0,.int .i64 0,.string ⟨#[]⟩,.slice none 0 0] 46):=⟨_,rfl⟩
 have bW:Below w.heap.size w W:=by rw[hW];exact below_al (below_al (below_self w) _) _
 obtain⟨bb,hbb⟩:∃ bb,bb=w.heap.size:=⟨_,rfl⟩
 have q:∀ j u,(clA c)[j]? = some u->W.cell? ⟨bb,j,none⟩=some u:=fun j u hj=>by
  rw[hW,hbb]
  exact ((below_al (below_self (w.alloc (.cells (clA c) 33))) _).cell (p:=⟨w.heap.size,j,none⟩) (by simp)).trans (by simpa using hj)
 have q0:=q 0 _ rfl
 have q1:=q 1 _ rfl
 have q2:=q 2 _ rfl
 have q3:=q 3 _ rfl
 have q4:=q 4 _ rfl
 have q5:=q 5 _ rfl
 have q6:=q 6 _ rfl
 clear q
 have ab:Ab W (bb+1) (.int .i64 0) (.int .i64 0) (.int .i64 0) (.string ⟨#[]⟩) (.slice none 0 0):=by
  have:=Ab.new (w.alloc (.cells (clA c) 33)) (.int .i64 0) (.int .i64 0) (.int .i64 0) (.string ⟨#[]⟩) (.slice none 0 0) 46
  rw[World.size_alloc] at this
  rw[hW,hbb];exact this
 have hW1:=h.step V bW
 have KC:=plCheck c W
 have hby:¬ F (bb+1):=fun q=>by have:=h.lt _ q;omega
 have l1:=ab.lt
 have FIN:=fun {w1 w5 wf:World} {F5:Nat->Prop} {d':Dk} (b1:Below W.heap.size W w1) (h5:Ds T w5 F5 B d') (hn5:∀ j,F5 j->Nw F w1 w5 j) (b5:But F w1 w5) (hb:But (fun j=>j=bb+1) w5 wf)=>do_fin (F:=F) (F1:=F) (w:=w) (wx:=w1) (ab:=bb+1) V h.en (.below (below_via bW b1)) (fun _ hj=>.inl hj) h5 hn5 b5 (by omega) (Nat.lt_of_lt_of_le l1 b1.size) hby hb
 have FH:Hid _:=@FIN
 have HS:Hid (w.heap.size<=W.heap.size/\bb+1<W.heap.size):=⟨bW.size,l1⟩
 clear FIN
 by_cases hcl:clF c=0
 ·have K1:=fun w1 (b1:Below W.heap.size W w1)=>plDo1 V c i (hW1.step V b1) ok sm hcl
  rw[show doP c=pWork c from if_pos hcl]
  rw[hcl,ev_0] at KC
  obtain⟨E,hE⟩:∃ E,Hid (E=ev (runF (pWork c) d i)):=⟨_,rfl⟩
  generalize runA (pWork c) d i=a at K1 ⊢
  generalize runD (pWork c) d i=d' at K1 ⊢
  unfold DoPost at K1 ⊢
  rw[<- hE.out] at K1 ⊢
  clear hcl hW1 hby l1 bW
  go_enter Tryz.func32,Tryz.ntmps32
  go_wp2_with (first
   | (go_at_call 62;rw[<- hW];refine KC.mono ?_;clear KC;rintro e w1 ⟨rfl,b1⟩;have K2:=K1 w1 b1;have ab1:=ab.step b1;have m0:=(b1.cell (World.block_lt_of_cell? _ _ q0)).trans q0;have m1:=(b1.cell (World.block_lt_of_cell? _ _ q1)).trans q1;have m2:=(b1.cell (World.block_lt_of_cell? _ _ q2)).trans q2;have m3:=(b1.cell (World.block_lt_of_cell? _ _ q3)).trans q3;have m4:=(b1.cell (World.block_lt_of_cell? _ _ q4)).trans q4;have m5:=(b1.cell (World.block_lt_of_cell? _ _ q5)).trans q5;have m6:=(b1.cell (World.block_lt_of_cell? _ _ q6)).trans q6;rw[hbb] at m0 m1 m2 m3 m4 m5 m6)
   | (go_at_call 63;refine K2.mono ?_;clear K2;rintro e w2 ⟨u,rfl,F5,h5,hn5,b5,row5,sep5⟩;obtain⟨pu,cu,rfl⟩:=own_form row5;have ab5:=ab1.but b5 (fun q=>by have:=h.lt _ q;omega);obtain⟨a0,a1,a2,a3,a4,af0,af1,af2,af3,af4⟩:=id ab5;rw[hbb] at a0 a1 a2 a3 a4 af0 af1 af2 af3 af4))
  subst hbb
  exact bodyPost_ret (v:=.tuple #[anV a (.slice pu a.l.length cu),E]) (by simp[results,Tryz.results32,go_sem,(ab5.all (.int .i64 a.p.1) (.int .i64 a.p.2) (.int .i64 a.ad) (.string a.ow) (.slice pu a.l.length cu)).c0,(ab5.all (.int .i64 a.p.1) (.int .i64 a.p.2) (.int .i64 a.ad) (.string a.ow) (.slice pu a.l.length cu)).c1,(ab5.all (.int .i64 a.p.1) (.int .i64 a.p.2) (.int .i64 a.ad) (.string a.ow) (.slice pu a.l.length cu)).c2,(ab5.all (.int .i64 a.p.1) (.int .i64 a.p.2) (.int .i64 a.ad) (.string a.ow) (.slice pu a.l.length cu)).c3,(ab5.all (.int .i64 a.p.1) (.int .i64 a.p.2) (.int .i64 a.ad) (.string a.ow) (.slice pu a.l.length cu)).c4]) rfl ⟨.slice pu a.l.length cu,rfl,F5,(FH.out b1 h5 hn5 b5 (but_5 _ (But.refl _ _) _ _ _ _ _)).1,(FH.out b1 h5 hn5 b5 (but_5 _ (But.refl _ _) _ _ _ _ _)).2.1,(FH.out b1 h5 hn5 b5 (but_5 _ (But.refl _ _) _ _ _ _ _)).2.2,ownMono (by have:=b1.size;have:=HS.out.1;omega) (row_but row5 (but_5 _ (But.refl _ _) _ _ _ _ _) (fun j hj q=>by have:=b1.size;have:=HS.out.2;omega)),sep5⟩
 ·have eP:doP c=err (clF c):=if_neg hcl
  rw[eP]
  have E1:Hid (ev (runF (err (clF c)) d i)=errN (clF c)):=ev_ne hcl
  rw[ev_ne hcl] at KC
  generalize hG:clF c=G at KC E1
  clear hG eP hcl l1 bW
  go_enter Tryz.func32,Tryz.ntmps32
  go_wp2_with (go_at_call 62;rw[<- hW];refine KC.mono ?_;clear KC;rintro e w1 ⟨rfl,b1⟩;have ab1:=ab.step b1;obtain⟨a0,a1,a2,a3,a4,af0,af1,af2,af3,af4⟩:=id ab1;rw[hbb] at a0 a1 a2 a3 a4 af0 af1 af2 af3 af4;have h1:=hW1.step V b1)
  subst hbb
  exact bodyPost_ret (v:=.tuple #[anV an0 (.slice none 0 0),errN G]) (by simp[results,Tryz.results32,go_sem,an0,(ab1.all (.int .i64 0) (.int .i64 0) (.int .i64 0) (.string ⟨#[]⟩) (.slice none 0 0)).c0,(ab1.all (.int .i64 0) (.int .i64 0) (.int .i64 0) (.string ⟨#[]⟩) (.slice none 0 0)).c1,(ab1.all (.int .i64 0) (.int .i64 0) (.int .i64 0) (.string ⟨#[]⟩) (.slice none 0 0)).c2,(ab1.all (.int .i64 0) (.int .i64 0) (.int .i64 0) (.string ⟨#[]⟩) (.slice none 0 0)).c3,(ab1.all (.int .i64 0) (.int .i64 0) (.int .i64 0) (.string ⟨#[]⟩) (.slice none 0 0)).c4];rfl) rfl ⟨.slice none 0 0,by rw[E1.out];rfl,F,(FH.out b1 h1 (fun _ hj=>.inl hj) (But.refl _ _) (but_5 _ (But.refl _ _) _ _ _ _ _)).1,(FH.out b1 h1 (fun _ hj=>.inl hj) (But.refl _ _) (but_5 _ (But.refl _ _) _ _ _ _ _)).2.1,(FH.out b1 h1 (fun _ hj=>.inl hj) (But.refl _ _) (but_5 _ (But.refl _ _) _ _ _ _ _)).2.2,World.ownsRow_nil _ _ _ _,fun j hj=>by cases hj⟩
end
end Go.Proofs.YtmghmpclmphccaaGreatDoor.Pa
namespace Go.Proofs.YtmghmpclmphccaaGreatDoor.Pa
open Go.RowKit Vs
def Nc:Pg->Prop
 | .ret _ _=>True
 | _=>False
def Gd:Pg->Prop
 | .ret _ _=>True
 | .get _ K=>∀ v f,Gd (K v f)
 | .rng lo _ K=>lo.size<=1000000 /\ ∀ l f,Gd (K l f)
 | .chg c K=>okc c /\ ∀ f,Nc (K f)
theorem nc_run {g:Pg} (h:Nc g) (d:Dk) (i:Int):runD g d i=d:=by
 cases g with
 | ret a f=>rfl
 | get k K=>exact h.elim
 | rng lo hi K=>exact h.elim
 | chg c K=>exact h.elim
theorem spz_set {d:Dk} (h:Spz d) {o':Ox} (ho:∀ s∈o'.spans,s.1.size<9223372036854775807):Spz (opSet d o'):=fun q hq=>by
 obtain⟨y,hy,rfl⟩:=List.mem_map.1 hq
 split
 ·exact ho
 ·exact h y hy
theorem spz_dg {d:Dk} (h:Spz d) (i:Int) (k:ByteArray):Spz (dgD d i k):=by
 unfold dgD
 cases e:opI d i with
 | none=>exact h
 | some o=>
  simp only
  split
  ·split
   ·exact h
   ·exact spz_set h (h o (opI_some e).1)
  ·exact h
theorem spz_dr {d:Dk} (h:Spz d) (i:Int) (lo hi:ByteArray) (hl:lo.size<=1000000):Spz (drD d i lo hi):=by
 unfold drD
 cases e:opI d i with
 | none=>exact h
 | some o=>
  simp only
  split
  ·exact h
  ·refine spz_set h (fun s hs=>?_)
   rcases List.mem_append.1 hs with g|g
   ·exact h o (opI_some e).1 s g
   ·rw[List.mem_singleton.1 g];show lo.size<_;omega
theorem spz_dc {d:Dk} (h:Spz d) (i:Int) (c:Chg):Spz (dcD d i c):=by
 unfold dcD
 cases e:opI d i with
 | none=>exact h
 | some o=>
  simp only
  split
  ·split
   ·exact h
   ·exact spz_set h (h o (opI_some e).1)
  ·exact h
theorem run_good:∀ (g:Pg) (d:Dk) (i:Int),Gd g->OkD d->Spz d->OkD (runD g d i)/\wt (runD g d i)<=wt d+1/\(runD g d i).ids=d.ids/\Spz (runD g d i)
 | .ret _ _,d,_,_,ok,sz=>⟨ok,Nat.le_succ _,rfl,sz⟩
 | .get k K,d,i,h,ok,sz=>by
  obtain⟨a1,a2,a3,a4⟩:=run_good (K (dgS d i k) (dgF d i k)) (dgD d i k) i (h _ _) (ok.dg i k) (spz_dg sz i k)
  rw[(wt_dg ok i k).1] at a2
  rw[(wt_dg ok i k).2] at a3
  exact⟨a1,a2,a3,a4⟩
 | .rng lo hi K,d,i,h,ok,sz=>by
  obtain⟨a1,a2,a3,a4⟩:=run_good (K (drS d i lo hi) (drF d i)) (drD d i lo hi) i (h.2 _ _) (ok.dr i lo hi) (spz_dr sz i lo hi h.1)
  rw[(wt_dr ok i lo hi).1] at a2
  rw[(wt_dr ok i lo hi).2] at a3
  exact⟨a1,a2,a3,a4⟩
 | .chg c K,d,i,h,ok,sz=>by
  show OkD (runD (K (dcF d i c)) (dcD d i c) i)/\_
  have e:runD (.chg c K) d i=dcD d i c:=nc_run (h.2 _) _ _
  have e':runD (K (dcF d i c)) (dcD d i c) i=dcD d i c:=nc_run (h.2 _) _ _
  rw[e,e']
  exact⟨ok.dc i h.1,(wt_dc ok i c).1,(wt_dc ok i c).2.1,spz_dc sz i c⟩
theorem gd_err (f:Int):Gd (err f):=trivial
theorem gd_asks {k:ByteArray} {K:ByteArray->Bool->Pg} (h:∀ v b,Gd (K v b)):Gd (asks k K):=fun v f=>by
 show Gd (if f=4 then K ByteArray.empty false else if f=0 then K v true else err f)
 by_cases h4:f=4
 ·rw[if_pos h4];exact h _ _
 ·rw[if_neg h4]
  by_cases h5:f=0
  ·rw[if_pos h5];exact h _ _
  ·rw[if_neg h5];exact gd_err _
theorem loK_size (c:UInt8) (n:ByteArray):(loK c n).size=n.size+3:=by
 unfold loK
 rw[txt_size]
 have:n.data.toList.length=n.size:=Array.length_toList
 simp
theorem gd_allL {n:ByteArray} {K:List Lot->Pg} (hn:n.size<=1000) (h:∀ l,Gd (K l)):Gd (allL n K):=⟨by rw[loK_size];omega,fun l f=>by
 show Gd (if f=0 then K (lots l) else err f)
 by_cases h5:f=0
 ·rw[if_pos h5];exact h _
 ·rw[if_neg h5];exact gd_err _⟩
theorem gd_allA {n:ByteArray} {K:List Int->Pg} (hn:n.size<=1000) (h:∀ l,Gd (K l)):Gd (allA n K):=⟨by rw[loK_size];omega,fun l f=>by
 show Gd (if f=0 then K (plcd l) else err f)
 by_cases h5:f=0
 ·rw[if_pos h5];exact h _
 ·rw[if_neg h5];exact gd_err _⟩
theorem gd_puts {k v:ByteArray} {a:An}:Gd (puts k v a):=⟨fun h=>(by cases h),fun f=>by
 show Nc (if f=0 then .ret a 0 else err f)
 split <;> trivial⟩
theorem gd_drops {k:ByteArray}:Gd (drops k):=⟨fun _=>rfl,fun _=>trivial⟩
theorem gd_allW {c:Cl} {K:List Lot->Pg} (hn:c.nm.size<=1000) (h:∀ l,Gd (K l)):Gd (allW c K):=gd_allL hn (fun l=>by
 by_cases h5:c.p∈l.map Prod.fst
 ·rw[if_pos h5];exact h _
 ·rw[if_neg h5];exact gd_err _)
theorem gd_do (c:Cl):Gd (doP c):=by
 unfold doP
 by_cases hcl:clF c=0
 ·rw[if_pos hcl,pWork_is]
  have hn:c.nm.size<=1000:=by have:=(clF_in hcl).2.2;omega
  refine gd_asks (fun _ b=>?_)
  unfold pBody
  split
  ·cases b
   ·exact gd_puts
   ·exact gd_err _
  ·split
   ·exact gd_err _
   ·split
    ·refine gd_asks (fun _ b=>?_)
     cases b
     ·exact gd_puts
     ·exact gd_err _
    ·split
     ·refine gd_asks (fun _ b=>?_)
      cases b
      ·exact gd_err _
      ·rw[if_pos rfl]
       refine gd_allL hn (fun l=>gd_allA hn (fun u=>?_))
       split
       ·exact gd_err _
       ·exact gd_drops
     ·split
      ·refine gd_allL hn (fun l=>gd_asks (fun _ b=>?_))
       split
       ·exact gd_err _
       ·cases b
        ·exact gd_puts
        ·exact gd_err _
      ·split
       ·refine gd_asks (fun _ b=>?_)
        cases b
        ·exact gd_err _
        ·exact gd_drops
       ·split
        ·refine gd_allW hn (fun l=>?_)
         split
         ·split
          ·exact gd_err _
          ·exact gd_puts
         ·exact gd_err _
        ·split
         ·refine gd_allW hn (fun l=>gd_allA hn (fun u=>?_))
          split
          ·exact gd_puts
          ·exact gd_err _
         ·split
          ·exact gd_allL hn (fun l=>trivial)
          ·refine gd_asks (fun v b=>?_)
           cases b
           ·rw[if_neg (by decide)]
            refine gd_allL hn (fun l=>?_)
            cases (hav l c.ad).getLast? with
            | none=>exact gd_err _
            | some o=>trivial
           ·trivial
 ·rw[if_neg hcl];exact gd_err _
def onX (d:Dk) (c:Cl):Dk:=runD (doP c) (bgD d) (bgN d)
def onG (d:Dk) (c:Cl):Int:=runF (doP c) (bgD d) (bgN d)
def onF (d:Dk) (c:Cl):Int:=if bgF d=0 then (if onG d c=0 then cmF (onX d c) (bgN d) else onG d c) else bgF d
def onD (d:Dk) (c:Cl):Dk:=if bgF d=0 then (if onG d c=0 then cmD (onX d c) (bgN d) else opDel (onX d c) (bgN d)) else bgD d
def onN (d:Dk) (c:Cl):Int:=if onF d c=0 then cmN (onX d c) (bgN d) else 0
def onA (d:Dk) (c:Cl):An:=if onF d c=0 then runA (doP c) (bgD d) (bgN d) else an0
theorem bg_sm {d:Dk} (h1:wt d<=800) (h2:d.ids<=99000):Sm (bgD d):=⟨by rw[(wt_bg d).1];omega,by have:=(wt_bg d).2.1;omega⟩
theorem spz_bg {d:Dk} (h:Spz d):Spz (bgD d):=fun o ho=>by
 unfold bgD at ho
 split at ho
 ·rcases List.mem_append.1 ho with g|g
  ·exact h o g
  ·rw[List.mem_singleton.1 g];exact fun s hs=>by simp at hs
 ·exact h o ho
theorem on_good {d:Dk} (c:Cl) (ok:OkD d) (sz:Spz d):OkD (onX d c)/\wt (onX d c)<=wt d+1/\(onX d c).ids<=d.ids+1/\Spz (onX d c):=by
 obtain⟨a1,a2,a3,a4⟩:=run_good (doP c) (bgD d) (bgN d) (gd_do c) ok.bg (spz_bg sz)
 rw[(wt_bg d).1] at a2
 have:=(wt_bg d).2.1
 exact⟨a1,a2,by unfold onX;omega,a4⟩
end Go.Proofs.YtmghmpclmphccaaGreatDoor.Pa
namespace Go.Proofs.YtmghmpclmphccaaGreatDoor.Pa
open Go.RowKit Go.Maps Vs
structure Hh (w:World) (H B M:Nat):Prop where
 c0:w.cell? ⟨H,0,none⟩=some (.pointer (some ⟨B,0,none⟩))
 c1:w.cell? ⟨H,1,none⟩=some (.map (some M))
theorem Hh.lt {w:World} {H B M:Nat} (h:Hh w H B M):H<w.heap.size:=World.block_lt_of_cell? _ _ h.c0
theorem Hh.but {E:Nat->Prop} {w w':World} {H B M:Nat} (h:Hh w H B M) (hb:But E w w') (hE:¬ E H):Hh w' H B M:=⟨(hb.cell (p:=⟨H,0,none⟩) h.lt hE).trans h.c0,(hb.cell (p:=⟨H,1,none⟩) h.lt hE).trans h.c1⟩
theorem Hh.step {w w':World} {H B M:Nat} (h:Hh w H B M) (hb:Below w.heap.size w w'):Hh w' H B M:=h.but (E:=fun _=>False) (.below hb) id
section
variable {T:Td} {w:World}
theorem hlNew (V:DFace T) (room:Int) (en:En w) (h0:0<=room) (h1:room<=100000) :
  Calls Tryz.prog 7 #[.int .i64 room] w fun e w'=>∃ H B M F,e=.returned (.tuple #[.pointer (some ⟨H,0,none⟩),.nilIface])/\Ds T w' F B (dk0 room)/\Hh w' H B M/\w'.ownsMap Tryz.prog 9 anyE M 0 (.map []) /\ ¬ F H /\ ¬ F M/\H≠M/\(∀ j,F j->w.heap.size<=j)/\w.heap.size<=H/\w.heap.size<=M/\Below w.heap.size w w':=by
 have hmm:=@run_makeMap Tryz.prog
 have K:=V.newOk w h0 h1
 have glt:∀ {j},Gl j->j<w.heap.size:=fun hj=>en.lt hj
 have GH:Hid _:=@glt
 clear glt
 go_enter Tryz.func7,Tryz.ntmps7
 go_wp2_with (go_at_call 25;refine K.mono ?_;clear K;rintro e w1 ⟨B,rfl,hT,hb1⟩)
 go_ret2
 have b2:=below_al (below_al (below_self w1) (.map #[] 0)) (.cells #[.pointer (some ⟨B,0,none⟩),.map (some w1.heap.size)] 75)
 have s1:=hb1.size
 refine⟨w1.heap.size+1,B,w1.heap.size,fun j=>w.heap.size<=j/\j<w1.heap.size,rfl,⟨V.step hT b2,fun j hj=>?_,fun j hj q=>?_,(en.step hb1).step b2⟩,⟨?_,?_⟩,(World.ownsMap_made w1 _ _ _).alloc _,fun q=>by have:=q.2;omega,fun q=>by have:=q.2;omega,by omega,fun j hj=>hj.1,by omega,s1,below_via hb1 b2⟩
 ·have:=b2.size
  have:=hj.2
  omega
 ·have:=GH.out q
  have:=hj.1
  omega
 ·go_simp
 ·go_simp
theorem hlJoined (f:Int) (b cap:Nat) (w:World) (c0:w.cell? ⟨b,0,none⟩=some (errN f)) (c1:w.cell? ⟨b,1,none⟩=some .nilIface) :
  Calls Tryz.prog 35 #[.slice (some ⟨b,0,none⟩) 2 cap] w fun e w'=>e=.returned (errN f)/\w'=w:=by
 go_enter Tryz.func35,Tryz.ntmps35
 go_wp2
 go_loopw [3,8] (fun s i wr=>wr=w/\((i=.int .i64 0/\s=.nilIface) \/ (i=.int .i64 1/\s=errN f) \/ (i=.int .i64 2/\s=errN f))) (fun _ i _=>2 - (intOf i).toNat)
 case atStart=>exact⟨rfl,.inl ⟨rfl,rfl⟩⟩
 case round=>
  obtain⟨hw,hor⟩:=hrel
  have:=hw.symm
  subst this
  rcases hor with ⟨rfl,rfl⟩|⟨rfl,rfl⟩|⟨rfl,rfl⟩
  ·go_wp2
   exact⟨⟨trivial,.inr (.inl ⟨rfl,rfl⟩)⟩,by simp[intOf]⟩
  ·go_wp2
   exact⟨⟨trivial,.inr (.inr ⟨rfl,rfl⟩)⟩,by simp[intOf]⟩
  ·go_wp2
   go_ret
   exact⟨rfl,rfl⟩
end
end Go.Proofs.YtmghmpclmphccaaGreatDoor.Pa
namespace Go.Proofs.YtmghmpclmphccaaGreatDoor.Pa
open Go.RowKit Go.Maps Vs
structure Cb (w:World) (b:Nat) (c:Cl):Prop where
 q0:w.cell? ⟨b,0,none⟩=some (.int .i64 c.what)
 q1:w.cell? ⟨b,1,none⟩=some (.string c.nm)
 q2:w.cell? ⟨b,2,none⟩=some (.int .i64 c.p.1)
 q3:w.cell? ⟨b,3,none⟩=some (.int .i64 c.p.2)
 q4:w.cell? ⟨b,4,none⟩=some (.int .i64 c.len)
 q5:w.cell? ⟨b,5,none⟩=some (.int .i64 c.ad)
 q6:w.cell? ⟨b,6,none⟩=some (.string c.ow)
theorem Cb.lt {w:World} {b:Nat} {c:Cl} (h:Cb w b c):b<w.heap.size:=World.block_lt_of_cell? _ _ h.q0
theorem Cb.new (w:World) (c:Cl) (t:Nat):Cb (w.alloc (.cells (clA c) t)) w.heap.size c:=⟨by simp,by simp,by simp,by simp,by simp,by simp,by simp⟩
theorem Cb.but {E:Nat->Prop} {w w':World} {b:Nat} {c:Cl} (h:Cb w b c) (hb:But E w w') (hE:¬ E b):Cb w' b c:=
 ⟨(hb.cell (p:=⟨b,0,none⟩) h.lt hE).trans h.q0,(hb.cell (p:=⟨b,1,none⟩) h.lt hE).trans h.q1,(hb.cell (p:=⟨b,2,none⟩) h.lt hE).trans h.q2,(hb.cell (p:=⟨b,3,none⟩) h.lt hE).trans h.q3,(hb.cell (p:=⟨b,4,none⟩) h.lt hE).trans h.q4,(hb.cell (p:=⟨b,5,none⟩) h.lt hE).trans h.q5,(hb.cell (p:=⟨b,6,none⟩) h.lt hE).trans h.q6⟩
theorem Cb.step {w w':World} {b:Nat} {c:Cl} (h:Cb w b c) (hb:Below w.heap.size w w'):Cb w' b c:=h.but (E:=fun _=>False) (.below hb) id
section
variable {T:Td} {w:World} {F:Nat->Prop} {B:Nat} {d:Dk}
def OnRel (T:Td) (F1:Nat->Prop) (w1:World) (B:Nat) (d2:Dk) (a:An) (wy:World) (s9:Value):Prop:=
 ∃ b pu cu F2,s9=.pointer (some ⟨b,0,none⟩)/\Ab wy b (.int .i64 a.p.1) (.int .i64 a.p.2) (.int .i64 a.ad) (.string a.ow) (.slice pu a.l.length cu)/\Ds T wy F2 B d2/\(∀ j,F2 j->Nw F1 w1 wy j)/\But F1 w1 wy/\wy.ownsRow w1.heap.size 31 2 (.slice pu a.l.length cu) a.l.length (pfV a.l)/\(∀ j,(Value.slice pu a.l.length cu).ownBlock=some j -> ¬ F2 j)/\w1.heap.size<=b /\ ¬ F2 b
theorem on_late (V:DFace T) {F1:Nat->Prop} {w1 w2:World} {d2:Dk} {a:An} {pu:Option Addr} {cu:Nat} {F2:Nat->Prop} (t:Nat) (h2:Ds T w2 F2 B d2) (hn2:∀ j,F2 j->Nw F1 w1 w2 j) (b2:But F1 w1 w2) (row:w2.ownsRow w1.heap.size 31 2 (.slice pu a.l.length cu) a.l.length (pfV a.l)) (sep:∀ j,(Value.slice pu a.l.length cu).ownBlock=some j -> ¬ F2 j) :
  OnRel T F1 w1 B d2 a (w2.alloc (.cells #[.int .i64 a.p.1,.int .i64 a.p.2,.int .i64 a.ad,.string a.ow,.slice pu a.l.length cu] t)) (.pointer (some ⟨w2.heap.size,0,none⟩)):=by
 have ba:=below_al (below_self w2) (.cells #[.int .i64 a.p.1,.int .i64 a.p.2,.int .i64 a.ad,.string a.ow,.slice pu a.l.length cu] t)
 have s:=b2.size
 exact⟨w2.heap.size,pu,cu,F2,rfl,Ab.new w2 _ _ _ _ _ t,h2.step V ba,fun j hj=>(hn2 j hj).elim .inl (fun g=>.inr ⟨g.1,Nat.lt_of_lt_of_le g.2 ba.size⟩),b2.step ba,row.alloc _,sep,s,fun q=>by have:=h2.lt _ q;omega⟩
theorem on_early (V:DFace T) {F1:Nat->Prop} {w1 wx w2:World} {d2:Dk} {a:An} {pu:Option Addr} {cu:Nat} {F2:Nat->Prop} {v0 v1 v2 v3 v4:Value} (en:En w1) (bx:Below w1.heap.size w1 wx) (lx:w1.heap.size<wx.heap.size) (hF:∀ j,F1 j->j<w1.heap.size) (h2:Ds T w2 F2 B d2) (hn2:∀ j,F2 j->Nw F1 wx w2 j) (b2:But F1 wx w2) (ab:Ab w2 w1.heap.size v0 v1 v2 v3 v4) (row:w2.ownsRow wx.heap.size 31 2 (.slice pu a.l.length cu) a.l.length (pfV a.l)) (sep:∀ j,(Value.slice pu a.l.length cu).ownBlock=some j -> ¬ F2 j) :
  OnRel T F1 w1 B d2 a (((((w2.setCell ⟨w1.heap.size,0,none⟩ (.int .i64 a.p.1)).setCell ⟨w1.heap.size,1,none⟩ (.int .i64 a.p.2)).setCell ⟨w1.heap.size,2,none⟩ (.int .i64 a.ad)).setCell ⟨w1.heap.size,3,none⟩ (.string a.ow)).setCell ⟨w1.heap.size,4,none⟩ (.slice pu a.l.length cu)) (.pointer (some ⟨w1.heap.size,0,none⟩)):=by
 have nb:¬ F1 w1.heap.size:=fun q=>by have:=hF _ q;omega
 have hb:=but_5 w1.heap.size (But.refl (fun j=>j=w1.heap.size) w2) (.int .i64 a.p.1) (.int .i64 a.p.2) (.int .i64 a.ad) (.string a.ow) (.slice pu a.l.length cu)
 obtain⟨g1,g2,g3⟩:=do_fin (F:=F1) (F1:=F1) (w:=w1) (wx:=wx) (ab:=w1.heap.size) V en (.below bx) (fun _ hj=>.inl hj) h2 hn2 b2 (Nat.le_refl _) lx nb hb
 refine⟨w1.heap.size,pu,cu,F2,rfl,ab.all _ _ _ _ _,g1,g2,g3,ownMono (Nat.le_of_lt lx) (row_but row hb (fun j hj q=>by omega)),sep,Nat.le_refl _,fun q=>?_⟩
 rcases hn2 _ q with g|g
 ·exact nb g
 ·have:=g.1;omega
theorem hlOnceOk (V:DFace T) (c:Cl) {H M:Nat} (h:Ds T w F B d) (ok:OkD d) (h1:wt d<=800) (h2:d.ids<=99000) (sz:Spz d) (hh:Hh w H B M) (nH:¬ F H) (g1:bgF d=0) (g2:onG d c=0) (g3:cmF (onX d c) (bgN d)=0) :
  Calls Tryz.prog 16 #[.pointer (some ⟨H,0,none⟩),clV c] w fun e w'=>∃ u,e=.returned (.tuple #[anV (runA (doP c) (bgD d) (bgN d)) u,.int .i64 (cmN (onX d c) (bgN d)),.nilIface])/\w'.ownsRow w.heap.size 31 2 u (runA (doP c) (bgD d) (bgN d)).l.length (pfV (runA (doP c) (bgD d) (bgN d)).l) /\ ∃ F',Ds T w' F' B (cmD (onX d c) (bgN d))/\(∀ j,F' j->Nw F w w' j)/\But F w w'/\Hh w' H B M /\ ¬ F' H:=by
 obtain⟨W,hW⟩:∃ W,W=(w.alloc (.cells (clA c) 33)).alloc (.cells #[.int .i64 0,.int .i64 0,.int .i64 0,.string ⟨#[]⟩,.slice none 0 0] 46):=⟨_,rfl⟩
 have bW:Below w.heap.size w W:=by rw[hW];exact below_al (below_al (below_self w) _) _
 obtain⟨bb,hbb⟩:∃ bb,bb=w.heap.size:=⟨_,rfl⟩
 have cb:Cb W bb c:=by rw[hW,hbb];exact (Cb.new w c _).step (below_al (below_self _) _)
 have ab:Ab W (bb+1) (.int .i64 0) (.int .i64 0) (.int .i64 0) (.string ⟨#[]⟩) (.slice none 0 0):=by
  have:=Ab.new (w.alloc (.cells (clA c) 33)) (.int .i64 0) (.int .i64 0) (.int .i64 0) (.string ⟨#[]⟩) (.slice none 0 0) 46
  rw[World.size_alloc] at this
  rw[hW,hbb];exact this
 have hhW:=hh.step bW
 have hW1:=h.step V bW
 have sm0:Sm d:=⟨by omega,by omega⟩
 have KB:=V.begin_ hW1.t ok sm0 hW1.lt
 have KD:=fun (wx:World) (F1:Nat->Prop) (hx:Ds T wx F1 B (bgD d))=>plDo V c (bgN d) hx ok.bg (bg_sm h1 h2)
 obtain⟨o1,o2,o3,o4⟩:=on_good c ok sz
 have KM:=fun (wx:World) (F1:Nat->Prop) (hx:Ds T wx F1 B (onX d c))=>V.commit (bgN d) hx.t o1 ⟨by omega,by omega⟩ hx.lt o4
 rw[g1,ev_0] at KB
 rw[g3,ev_0] at KM
 unfold DoPost at KD
 rw[show runF (doP c) (bgD d) (bgN d)=0 from g2,ev_0,show runD (doP c) (bgD d) (bgN d)=onX d c from rfl] at KD
 have okx:=o1
 clear g1 g2 g3 o1 o2 o3 o4
 have hlb:∀ j,F j->j<w.heap.size:=h.lt
 have en:=h.en
 have lW:bb+1<W.heap.size:=ab.lt
 have sW:=bW.size
 generalize runA (doP c) (bgD d) (bgN d)=a at KD ⊢
 generalize cmN (onX d c) (bgN d)=nn at KM ⊢
 generalize cmD (onX d c) (bgN d)=d3 at KM ⊢
 generalize onX d c=d2 at KD KM okx
 generalize bgN d=id1 at KB KD KM
 have HH:=hh.c0
 have HL:=hh.lt
 go_enter Tryz.func16,Tryz.ntmps16
 go_upto_region 4 with (go_at_call 27;rw[<- hW];refine KB.mono ?_;clear KB;rintro e w1 ⟨rfl,hT1,hb1⟩)
 rw[<- hbb]
 have HBB:Hid (bb=w.heap.size):=hbb
 have dj1:=Dj.of hW1 hT1 (fun j hj=>hj) hb1
 obtain⟨F1,hF1,nx1⟩:=dj1.ex
 have nH1:¬ F1 H:=fun q=>(nx1 _ q).elim nH (fun g=>by have:=g.1;have:=hhW.lt;omega)
 have nb0:¬ F1 bb:=fun q=>(nx1 _ q).elim (fun g=>by have:=hlb _ g;omega) (fun g=>by have:=g.1;omega)
 have nb1:¬ F1 (bb+1):=fun q=>(nx1 _ q).elim (fun g=>by have:=hlb _ g;omega) (fun g=>by have:=g.1;omega)
 have hh1:=hhW.but hb1 nH
 have cb1:Cb w1 bb c:=cb.but hb1 (fun q=>by have:=hlb _ q;omega)
 have ab1:=ab.but hb1 (fun q=>by have:=hlb _ q;omega)
 have KD1:=fun (wx:World) (bx:Below w1.heap.size w1 wx)=>KD wx F1 (hF1.step V bx)
 have LT:Hid (∀ j,F1 j->j<w1.heap.size):=hF1.lt
 have EN:Hid (En w1):=hF1.en
 clear hW hbb KD HH HL
 go_cut [8,9] from 23 to 32 (fun s8 s9 wy=>s8=.nilIface/\OnRel T F1 w1 B d2 a wy s9)
 case first=>
  have sx:∀ {wy:World},Hh wy H B M->Cb wy bb c->wy.cell? ⟨H,0,none⟩=some (.pointer (some ⟨B,0,none⟩))/\wy.cell? ⟨bb,0,none⟩=some (.int .i64 c.what)/\wy.cell? ⟨bb,1,none⟩=some (.string c.nm)/\wy.cell? ⟨bb,2,none⟩=some (.int .i64 c.p.1)/\wy.cell? ⟨bb,3,none⟩=some (.int .i64 c.p.2)/\wy.cell? ⟨bb,4,none⟩=some (.int .i64 c.len)/\wy.cell? ⟨bb,5,none⟩=some (.int .i64 c.ad)/\wy.cell? ⟨bb,6,none⟩=some (.string c.ow):=fun a b=>⟨a.c0,b.q0,b.q1,b.q2,b.q3,b.q4,b.q5,b.q6⟩
  have nz1:¬ H=w1.heap.size:=fun q=>by have:=hh1.lt;omega
  have nz0:¬ bb=w1.heap.size:=fun q=>by have:=cb1.lt;omega
  go_region_held3 (fun wy=>wy.cell? ⟨H,0,none⟩=some (.pointer (some ⟨B,0,none⟩))/\wy.cell? ⟨bb,0,none⟩=some (.int .i64 c.what)/\wy.cell? ⟨bb,1,none⟩=some (.string c.nm)/\wy.cell? ⟨bb,2,none⟩=some (.int .i64 c.p.1)/\wy.cell? ⟨bb,3,none⟩=some (.int .i64 c.p.2)/\wy.cell? ⟨bb,4,none⟩=some (.int .i64 c.len)/\wy.cell? ⟨bb,5,none⟩=some (.int .i64 c.ad)/\wy.cell? ⟨bb,6,none⟩=some (.string c.ow))
   (with_reducible first|exact sx (hh1.step (below_self w1).drew) (cb1.step (below_self w1).drew)|exact sx (hh1.step (below_al (below_self w1) _).drew) (cb1.step (below_al (below_self w1) _).drew)|exact sx (hh1.step (below_al (below_self w1) _)) (cb1.step (below_al (below_self w1) _))|exact sx hh1 cb1|exact sx hh3 cb3|exact sx (hh3.step (below_al (below_self w3) _)) (cb3.step (below_al (below_self w3) _))|exact sx (hh3.but (but_5 w1.heap.size (But.refl (fun j=>j=w1.heap.size) w3) _ _ _ _ _) nz1) (cb3.but (but_5 w1.heap.size (But.refl (fun j=>j=w1.heap.size) w3) _ _ _ _ _) nz0))
   (first
    | (go_at_call 32;with_reducible refine (KD1 _ (below_self w1).drew).mono ?_;rintro e w3 ⟨u,rfl,F2,h3,hn3,b3,row3,sep3⟩;obtain⟨pu,cu,rfl⟩:=own_form row3;have hh3:Hh w3 H B M:=(hh1.step (below_self w1).drew).but b3 nH1;have cb3:Cb w3 bb c:=(cb1.step (below_self w1).drew).but b3 nb0)
    | (go_at_call 32;with_reducible refine (KD1 _ (below_al (below_self w1) _).drew).mono ?_;rintro e w3 ⟨u,rfl,F2,h3,hn3,b3,row3,sep3⟩;obtain⟨pu,cu,rfl⟩:=own_form row3;have hh3:Hh w3 H B M:=(hh1.step (below_al (below_self w1) _).drew).but b3 nH1;have cb3:Cb w3 bb c:=(cb1.step (below_al (below_self w1) _).drew).but b3 nb0;have qx:Ab w3 w1.heap.size (.int .i64 0) (.int .i64 0) (.int .i64 0) (.string ⟨#[]⟩) (.slice none 0 0):=((Ab.new w1 _ _ _ _ _ _).step (below_self _).drew).but b3 (fun q=>absurd (LT.out w1.heap.size q) (Nat.lt_irrefl w1.heap.size));obtain⟨x0,x1,x2,x3,x4,y0,y1,y2,y3,y4⟩:=id qx))
  all_goals (
   go_wp2_with fail
   go_meet)
  all_goals (refine⟨rfl,?_⟩)
  all_goals (first
    | exact on_late V _ h3 (fun j hj=>(hn3 j hj).elim .inl .inr) ((But.refl F1 w1).drew.trans b3) row3 sep3
    | exact on_early V EN.out (below_al (below_self w1) _).drew (by simp) LT.out h3 hn3 b3 qx row3 sep3)
 case rest=>
  obtain⟨rfl,b,pu,cu,F2,rfl,abx,h3,hn3,b3,row3,sep3,lb,nb⟩:=hcut
  have hh3:Hh wc H B M:=hh1.but b3 nH1
  have ab3:=ab1.but b3 nb1
  have s1:=hb1.size
  have s3:=b3.size
  have hN1:∀ j,F1 j->Nw F w w1 j:=fun j hj=>(nx1 j hj).elim .inl (fun g=>.inr ⟨by have:=g.1;omega,g.2⟩)
  have hB1:But F w w1:=(But.below bW).trans hb1
  have hB3:But F w wc:=hB1.then b3 (fun j hj q=>(hN1 j q).elim id (fun g=>by have:=g.1;omega))
  have hN3:∀ j,F2 j->Nw F w wc j:=fun j hj=>(hn3 j hj).elim (fun g=>(hN1 j g).elim .inl (fun q=>.inr ⟨q.1,by have:=q.2;omega⟩)) (fun g=>.inr ⟨by have:=g.1;have:=hB1.size;omega,g.2⟩)
  have nb3:¬ F2 (bb+1):=fun q=>(hn3 _ q).elim nb1 (fun g=>by have:=g.1;have:=ab1.lt;omega)
  have nH3:¬ F2 H:=fun q=>(hn3 _ q).elim nH1 (fun g=>by have:=g.1;have:=hh1.lt;omega)
  have ne:¬ H=bb+1:=fun q=>by have:=hh.lt;have:=HBB.out;omega
  have KM1:=KM wc F2 h3
  have FIN:∀ {w4 wf:World},T w4 (Nw F2 wc w4) B d3->But F2 wc w4->But (fun j=>j=bb+1) w4 wf -> ∃ F',Ds T wf F' B d3/\(∀ j,F' j->Nw F w wf j)/\But F w wf/\Hh wf H B M /\ ¬ F' H:=by
   intro w4 wf hT b4 hb
   obtain⟨F5,h5,hn5⟩:=(Dj.of h3 hT (fun j hj=>hj) b4).ex
   obtain⟨q1,q2,q3⟩:=do_fin (F:=F) (F1:=F2) (w:=w) (wx:=wc) (ab:=bb+1) V en hB3 hN3 h5 hn5 b4 (by have:=HBB.out;omega) ab3.lt nb3 hb
   exact⟨F5,q1,q2,q3,(hh3.but b4 nH3).but hb ne,fun q=>(hn5 _ q).elim nH3 (fun g=>by have:=g.1;have:=hh3.lt;omega)⟩
  have ROW1:∀ {w4 wf:World},But F2 wc w4->But (fun j=>j=bb+1) w4 wf->wf.ownsRow w.heap.size 31 2 (.slice pu a.l.length cu) a.l.length (pfV a.l):=fun b4 hb=>ownMono (by have:=hB1.size;omega) (row_but (Go.Proofs.YtmghmpclmphccaaGreatDoor.row_but row3 b4 sep3) hb (fun j hj q=>by have:=ab1.lt;omega))
  have ROW:Hid _:=@ROW1
  clear ROW1
  have HH:=hh3.c0
  have HL:=hh3.lt
  have FH:Hid _:=@FIN
  clear KM KD1 FIN
  go_wp2_with (go_at_call 30;refine KM1.mono ?_;clear KM1;rintro e w4 ⟨rfl,hT4,hb4⟩;have abx4:=abx.but hb4 nb;have ab4:=ab3.but hb4 nb3;obtain⟨e0,e1,e2,e3,e4,ef0,ef1,ef2,ef3,ef4⟩:=id abx4;obtain⟨a0,a1,a2,a3,a4,af0,af1,af2,af3,af4⟩:=id ab4)
  exact bodyPost_ret (v:=.tuple #[anV a (.slice pu a.l.length cu),.int .i64 nn,.nilIface]) (by simp[results,Tryz.results16,go_sem,(ab4.all (.int .i64 a.p.1) (.int .i64 a.p.2) (.int .i64 a.ad) (.string a.ow) (.slice pu a.l.length cu)).c0,(ab4.all (.int .i64 a.p.1) (.int .i64 a.p.2) (.int .i64 a.ad) (.string a.ow) (.slice pu a.l.length cu)).c1,(ab4.all (.int .i64 a.p.1) (.int .i64 a.p.2) (.int .i64 a.ad) (.string a.ow) (.slice pu a.l.length cu)).c2,(ab4.all (.int .i64 a.p.1) (.int .i64 a.p.2) (.int .i64 a.ad) (.string a.ow) (.slice pu a.l.length cu)).c3,(ab4.all (.int .i64 a.p.1) (.int .i64 a.p.2) (.int .i64 a.ad) (.string a.ow) (.slice pu a.l.length cu)).c4]) rfl ⟨.slice pu a.l.length cu,rfl,ROW.out hb4 (but_5 _ (But.refl _ _) _ _ _ _ _),FH.out hT4 hb4 (but_5 _ (But.refl _ _) _ _ _ _ _)⟩
end
end Go.Proofs.YtmghmpclmphccaaGreatDoor.Pa
namespace Go.Proofs.YtmghmpclmphccaaGreatDoor.Pa
open Go.RowKit Vs
theorem set_open {d:Dk} {i:Int} {o o':Ox} (h:opI d i=some o) (e:o'.id=o.id):(opI (opSet d o') i).isSome=true:=by
 have q:=(opI_some h).2
 rw[opI_set (o:=o) (by rw[q];exact h) e i,if_pos q.symm]
 rfl
theorem dg_open {d:Dk} {i:Int} (h:(opI d i).isSome=true) (k:ByteArray):(opI (dgD d i k) i).isSome=true:=by
 unfold dgD
 cases e:opI d i with
 | none=>rw[e] at h;cases h
 | some o=>
  simp only
  split
  ·split
   ·exact h
   ·exact set_open e rfl
  ·exact h
theorem dr_open {d:Dk} {i:Int} (h:(opI d i).isSome=true) (lo hi:ByteArray):(opI (drD d i lo hi) i).isSome=true:=by
 unfold drD
 cases e:opI d i with
 | none=>rw[e] at h;cases h
 | some o=>
  simp only
  split
  ·exact h
  ·exact set_open e rfl
theorem dc_open {d:Dk} {i:Int} (h:(opI d i).isSome=true) (c:Chg):(opI (dcD d i c) i).isSome=true:=by
 unfold dcD
 cases e:opI d i with
 | none=>rw[e] at h;cases h
 | some o=>
  simp only
  split
  ·split
   ·exact h
   ·exact set_open e rfl
  ·exact h
theorem run_open:∀ (g:Pg) (d:Dk) (i:Int),(opI d i).isSome=true->(opI (runD g d i) i).isSome=true
 | .ret _ _,_,_,h=>h
 | .get k K,d,i,h=>run_open (K (dgS d i k) (dgF d i k)) (dgD d i k) i (dg_open h k)
 | .rng lo hi K,d,i,h=>run_open (K (drS d i lo hi) (drF d i)) (drD d i lo hi) i (dr_open h lo hi)
 | .chg c K,d,i,h=>run_open (K (dcF d i c)) (dcD d i c) i (dc_open h c)
theorem bg_open {d:Dk} (h:bgF d=0):(opI (bgD d) (bgN d)).isSome=true:=by
 have e1:bgN d=d.ids+1:=if_pos h
 have e2:bgD d={ d with ids:=d.ids+1,op:=d.op ++ [⟨d.ids+1,d.last,0,[],[],[]⟩] }:=if_pos h
 rw[e1,e2]
 show (List.find? _ (d.op ++ [_])).isSome=true
 rw[List.find?_isSome]
 exact⟨_,List.mem_append_right _ (List.mem_singleton.2 rfl),by simp⟩
theorem on_open {d:Dk} (c:Cl) (h:bgF d=0):abF (onX d c) (bgN d)=0:=if_pos (run_open (doP c) (bgD d) (bgN d) (bg_open h))
end Go.Proofs.YtmghmpclmphccaaGreatDoor.Pa
namespace Go.Proofs.YtmghmpclmphccaaGreatDoor.Pa
open Go.RowKit Go.Maps Vs
section
variable {T:Td} {w:World} {F:Nat->Prop} {B:Nat} {d:Dk}
theorem hlOnceNo (V:DFace T) (c:Cl) {H M:Nat} (h:Ds T w F B d) (ok:OkD d) (h1:wt d<=800) (h2:d.ids<=99000) (sz:Spz d) (hh:Hh w H B M) (nH:¬ F H) (g1:bgF d=0) (g2:onG d c≠0) :
  Calls Tryz.prog 16 #[.pointer (some ⟨H,0,none⟩),clV c] w fun e w'=>e=.returned (.tuple #[anV an0 (.slice none 0 0),.int .i64 0,errN (onG d c)]) /\ ∃ F',Ds T w' F' B (opDel (onX d c) (bgN d))/\(∀ j,F' j->Nw F w w' j)/\But F w w'/\Hh w' H B M /\ ¬ F' H:=by
 obtain⟨W,hW⟩:∃ W,W=(w.alloc (.cells (clA c) 33)).alloc (.cells #[.int .i64 0,.int .i64 0,.int .i64 0,.string ⟨#[]⟩,.slice none 0 0] 46):=⟨_,rfl⟩
 have bW:Below w.heap.size w W:=by rw[hW];exact below_al (below_al (below_self w) _) _
 obtain⟨bb,hbb⟩:∃ bb,bb=w.heap.size:=⟨_,rfl⟩
 have cb:Cb W bb c:=by rw[hW,hbb];exact (Cb.new w c _).step (below_al (below_self _) _)
 have ab:Ab W (bb+1) (.int .i64 0) (.int .i64 0) (.int .i64 0) (.string ⟨#[]⟩) (.slice none 0 0):=by
  have:=Ab.new (w.alloc (.cells (clA c) 33)) (.int .i64 0) (.int .i64 0) (.int .i64 0) (.string ⟨#[]⟩) (.slice none 0 0) 46
  rw[World.size_alloc] at this
  rw[hW,hbb];exact this
 have hhW:=hh.step bW
 have hW1:=h.step V bW
 have sm0:Sm d:=⟨by omega,by omega⟩
 have KB:=V.begin_ hW1.t ok sm0 hW1.lt
 have KD:=fun (wx:World) (F1:Nat->Prop) (hx:Ds T wx F1 B (bgD d))=>plDo V c (bgN d) hx ok.bg (bg_sm h1 h2)
 obtain⟨o1,o2,o3,o4⟩:=on_good c ok sz
 have KM:=fun (wx:World) (F1:Nat->Prop) (hx:Ds T wx F1 B (onX d c))=>V.abort (bgN d) hx.t o1 ⟨by omega,by omega⟩ hx.lt
 rw[on_open c g1,ev_0] at KM
 rw[g1,ev_0] at KB
 unfold DoPost at KD
 rw[show runF (doP c) (bgD d) (bgN d)=onG d c from rfl,ev_ne g2,show runD (doP c) (bgD d) (bgN d)=onX d c from rfl] at KD
 have okx:=o1
 clear g1 g2 o1 o2 o3 o4
 have hlb:∀ j,F j->j<w.heap.size:=h.lt
 have en:=h.en
 have lW:bb+1<W.heap.size:=ab.lt
 have sW:=bW.size
 generalize runA (doP c) (bgD d) (bgN d)=a at KD
 generalize onG d c=g at KD ⊢
 generalize opDel (onX d c) (bgN d)=d3 at KM ⊢
 generalize onX d c=d2 at KD KM okx
 generalize bgN d=id1 at KB KD KM
 have HH:=hh.c0
 have HL:=hh.lt
 go_enter Tryz.func16,Tryz.ntmps16
 go_upto_region 4 with (go_at_call 27;rw[<- hW];refine KB.mono ?_;clear KB;rintro e w1 ⟨rfl,hT1,hb1⟩)
 rw[<- hbb]
 have HBB:Hid (bb=w.heap.size):=hbb
 have dj1:=Dj.of hW1 hT1 (fun j hj=>hj) hb1
 obtain⟨F1,hF1,nx1⟩:=dj1.ex
 have nH1:¬ F1 H:=fun q=>(nx1 _ q).elim nH (fun g=>by have:=g.1;have:=hhW.lt;omega)
 have nb0:¬ F1 bb:=fun q=>(nx1 _ q).elim (fun g=>by have:=hlb _ g;omega) (fun g=>by have:=g.1;omega)
 have nb1:¬ F1 (bb+1):=fun q=>(nx1 _ q).elim (fun g=>by have:=hlb _ g;omega) (fun g=>by have:=g.1;omega)
 have hh1:=hhW.but hb1 nH
 have cb1:Cb w1 bb c:=cb.but hb1 (fun q=>by have:=hlb _ q;omega)
 have ab1:=ab.but hb1 (fun q=>by have:=hlb _ q;omega)
 have KD1:=fun (wx:World) (bx:Below w1.heap.size w1 wx)=>KD wx F1 (hF1.step V bx)
 have LT:Hid (∀ j,F1 j->j<w1.heap.size):=hF1.lt
 have EN:Hid (En w1):=hF1.en
 clear hW hbb KD HH HL
 go_cut [8,9] from 23 to 32 (fun s8 s9 wy=>s8=errN g/\OnRel T F1 w1 B d2 a wy s9)
 case first=>
  have sx:∀ {wy:World},Hh wy H B M->Cb wy bb c->wy.cell? ⟨H,0,none⟩=some (.pointer (some ⟨B,0,none⟩))/\wy.cell? ⟨bb,0,none⟩=some (.int .i64 c.what)/\wy.cell? ⟨bb,1,none⟩=some (.string c.nm)/\wy.cell? ⟨bb,2,none⟩=some (.int .i64 c.p.1)/\wy.cell? ⟨bb,3,none⟩=some (.int .i64 c.p.2)/\wy.cell? ⟨bb,4,none⟩=some (.int .i64 c.len)/\wy.cell? ⟨bb,5,none⟩=some (.int .i64 c.ad)/\wy.cell? ⟨bb,6,none⟩=some (.string c.ow):=fun a b=>⟨a.c0,b.q0,b.q1,b.q2,b.q3,b.q4,b.q5,b.q6⟩
  have nz1:¬ H=w1.heap.size:=fun q=>by have:=hh1.lt;omega
  have nz0:¬ bb=w1.heap.size:=fun q=>by have:=cb1.lt;omega
  go_region_held3 (fun wy=>wy.cell? ⟨H,0,none⟩=some (.pointer (some ⟨B,0,none⟩))/\wy.cell? ⟨bb,0,none⟩=some (.int .i64 c.what)/\wy.cell? ⟨bb,1,none⟩=some (.string c.nm)/\wy.cell? ⟨bb,2,none⟩=some (.int .i64 c.p.1)/\wy.cell? ⟨bb,3,none⟩=some (.int .i64 c.p.2)/\wy.cell? ⟨bb,4,none⟩=some (.int .i64 c.len)/\wy.cell? ⟨bb,5,none⟩=some (.int .i64 c.ad)/\wy.cell? ⟨bb,6,none⟩=some (.string c.ow))
   (with_reducible first|exact sx (hh1.step (below_self w1).drew) (cb1.step (below_self w1).drew)|exact sx (hh1.step (below_al (below_self w1) _).drew) (cb1.step (below_al (below_self w1) _).drew)|exact sx (hh1.step (below_al (below_self w1) _)) (cb1.step (below_al (below_self w1) _))|exact sx hh1 cb1|exact sx hh3 cb3|exact sx (hh3.step (below_al (below_self w3) _)) (cb3.step (below_al (below_self w3) _))|exact sx (hh3.but (but_5 w1.heap.size (But.refl (fun j=>j=w1.heap.size) w3) _ _ _ _ _) nz1) (cb3.but (but_5 w1.heap.size (But.refl (fun j=>j=w1.heap.size) w3) _ _ _ _ _) nz0))
   (first
    | (go_at_call 32;with_reducible refine (KD1 _ (below_self w1).drew).mono ?_;rintro e w3 ⟨u,rfl,F2,h3,hn3,b3,row3,sep3⟩;obtain⟨pu,cu,rfl⟩:=own_form row3;have hh3:Hh w3 H B M:=(hh1.step (below_self w1).drew).but b3 nH1;have cb3:Cb w3 bb c:=(cb1.step (below_self w1).drew).but b3 nb0)
    | (go_at_call 32;with_reducible refine (KD1 _ (below_al (below_self w1) _).drew).mono ?_;rintro e w3 ⟨u,rfl,F2,h3,hn3,b3,row3,sep3⟩;obtain⟨pu,cu,rfl⟩:=own_form row3;have hh3:Hh w3 H B M:=(hh1.step (below_al (below_self w1) _).drew).but b3 nH1;have cb3:Cb w3 bb c:=(cb1.step (below_al (below_self w1) _).drew).but b3 nb0;have qx:Ab w3 w1.heap.size (.int .i64 0) (.int .i64 0) (.int .i64 0) (.string ⟨#[]⟩) (.slice none 0 0):=((Ab.new w1 _ _ _ _ _ _).step (below_self _).drew).but b3 (fun q=>absurd (LT.out w1.heap.size q) (Nat.lt_irrefl w1.heap.size));obtain⟨x0,x1,x2,x3,x4,y0,y1,y2,y3,y4⟩:=id qx))
  all_goals (
   go_wp2_with fail
   go_meet)
  all_goals (refine⟨rfl,?_⟩)
  all_goals (first
    | exact on_late V _ h3 (fun j hj=>(hn3 j hj).elim .inl .inr) ((But.refl F1 w1).drew.trans b3) row3 sep3
    | exact on_early V EN.out (below_al (below_self w1) _).drew (by simp) LT.out h3 hn3 b3 qx row3 sep3)
 case rest=>
  obtain⟨rfl,b,pu,cu,F2,rfl,abx,h3,hn3,b3,row3,sep3,lb,nb⟩:=hcut
  have hh3:Hh wc H B M:=hh1.but b3 nH1
  have ab3:=ab1.but b3 nb1
  have s1:=hb1.size
  have s3:=b3.size
  have hN1:∀ j,F1 j->Nw F w w1 j:=fun j hj=>(nx1 j hj).elim .inl (fun g=>.inr ⟨by have:=g.1;omega,g.2⟩)
  have hB1:But F w w1:=(But.below bW).trans hb1
  have hB3:But F w wc:=hB1.then b3 (fun j hj q=>(hN1 j q).elim id (fun g=>by have:=g.1;omega))
  have hN3:∀ j,F2 j->Nw F w wc j:=fun j hj=>(hn3 j hj).elim (fun g=>(hN1 j g).elim .inl (fun q=>.inr ⟨q.1,by have:=q.2;omega⟩)) (fun g=>.inr ⟨by have:=g.1;have:=hB1.size;omega,g.2⟩)
  have nb3:¬ F2 (bb+1):=fun q=>(hn3 _ q).elim nb1 (fun g=>by have:=g.1;have:=ab1.lt;omega)
  have nH3:¬ F2 H:=fun q=>(hn3 _ q).elim nH1 (fun g=>by have:=g.1;have:=hh1.lt;omega)
  have ne:¬ H=bb+1:=fun q=>by have:=hh.lt;have:=HBB.out;omega
  have KM1:=KM wc F2 h3
  have FIN:∀ {w4 wf:World},T w4 (Nw F2 wc w4) B d3->But F2 wc w4->But (fun j=>j=bb+1) w4 wf -> ∃ F',Ds T wf F' B d3/\(∀ j,F' j->Nw F w wf j)/\But F w wf/\Hh wf H B M /\ ¬ F' H:=by
   intro w4 wf hT b4 hb
   obtain⟨F5,h5,hn5⟩:=(Dj.of h3 hT (fun j hj=>hj) b4).ex
   obtain⟨q1,q2,q3⟩:=do_fin (F:=F) (F1:=F2) (w:=w) (wx:=wc) (ab:=bb+1) V en hB3 hN3 h5 hn5 b4 (by have:=HBB.out;omega) ab3.lt nb3 hb
   exact⟨F5,q1,q2,q3,(hh3.but b4 nH3).but hb ne,fun q=>(hn5 _ q).elim nH3 (fun g=>by have:=g.1;have:=hh3.lt;omega)⟩
  have HH:=hh3.c0
  have HL:=hh3.lt
  have FH:Hid _:=@FIN
  clear KM KD1 FIN
  go_wp2_with (first
   | (go_at_call 29;refine KM1.mono ?_;clear KM1;rintro e w4 ⟨rfl,hT4,hb4⟩;have ab4:=ab3.but hb4 nb3)
   | (go_at_call 35;refine (hlJoined g _ _ _ (by simp) (by simp)).mono ?_;rintro e w5 ⟨rfl,hw5⟩;have bl5:Below w4.heap.size w4 w5:=(by rw[hw5];exact below_al (below_self w4) _);have ab5:=ab4.step bl5;clear hw5;obtain⟨a0,a1,a2,a3,a4,af0,af1,af2,af3,af4⟩:=id ab5))
  exact bodyPost_ret (v:=.tuple #[anV an0 (.slice none 0 0),.int .i64 0,errN g]) (by simp[results,Tryz.results16,go_sem,an0,(ab5.all (.int .i64 0) (.int .i64 0) (.int .i64 0) (.string ⟨#[]⟩) (.slice none 0 0)).c0,(ab5.all (.int .i64 0) (.int .i64 0) (.int .i64 0) (.string ⟨#[]⟩) (.slice none 0 0)).c1,(ab5.all (.int .i64 0) (.int .i64 0) (.int .i64 0) (.string ⟨#[]⟩) (.slice none 0 0)).c2,(ab5.all (.int .i64 0) (.int .i64 0) (.int .i64 0) (.string ⟨#[]⟩) (.slice none 0 0)).c3,(ab5.all (.int .i64 0) (.int .i64 0) (.int .i64 0) (.string ⟨#[]⟩) (.slice none 0 0)).c4];rfl) rfl ⟨rfl,FH.out hT4 hb4 (but_5 _ (But.below bl5) _ _ _ _ _)⟩
end
end Go.Proofs.YtmghmpclmphccaaGreatDoor.Pa
namespace Go.Proofs.YtmghmpclmphccaaGreatDoor.Pa
open Go.RowKit Go.Maps Vs
section
variable {T:Td} {w:World} {F:Nat->Prop} {B:Nat} {d:Dk}
theorem hlOnceBg (V:DFace T) (c:Cl) {H M:Nat} (h:Ds T w F B d) (ok:OkD d) (h1:wt d<=800) (h2:d.ids<=99000) (hh:Hh w H B M) (nH:¬ F H) (g1:bgF d≠0) :
  Calls Tryz.prog 16 #[.pointer (some ⟨H,0,none⟩),clV c] w fun e w'=>e=.returned (.tuple #[anV an0 (.slice none 0 0),.int .i64 0,errN (bgF d)]) /\ ∃ F',Ds T w' F' B (bgD d)/\(∀ j,F' j->Nw F w w' j)/\But F w w'/\Hh w' H B M /\ ¬ F' H:=by
 obtain⟨W,hW⟩:∃ W,W=(w.alloc (.cells (clA c) 33)).alloc (.cells #[.int .i64 0,.int .i64 0,.int .i64 0,.string ⟨#[]⟩,.slice none 0 0] 46):=⟨_,rfl⟩
 have bW:Below w.heap.size w W:=by rw[hW];exact below_al (below_al (below_self w) _) _
 obtain⟨bb,hbb⟩:∃ bb,bb=w.heap.size:=⟨_,rfl⟩
 have ab:Ab W (bb+1) (.int .i64 0) (.int .i64 0) (.int .i64 0) (.string ⟨#[]⟩) (.slice none 0 0):=by
  have:=Ab.new (w.alloc (.cells (clA c) 33)) (.int .i64 0) (.int .i64 0) (.int .i64 0) (.string ⟨#[]⟩) (.slice none 0 0) 46
  rw[World.size_alloc] at this
  rw[hW,hbb];exact this
 have hhW:=hh.step bW
 have hW1:=h.step V bW
 have sm0:Sm d:=⟨by omega,by omega⟩
 have KB:=V.begin_ hW1.t ok sm0 hW1.lt
 rw[ev_ne g1] at KB
 have lW:bb+1<W.heap.size:=ab.lt
 have nb1:¬ F (bb+1):=fun q=>by have:=h.lt _ q;omega
 have ne:¬ H=bb+1:=fun q=>by have:=hh.lt;omega
 have FIN:∀ {w1 wf:World},T w1 (Nw F W w1) B (bgD d)->But F W w1->But (fun j=>j=bb+1) w1 wf -> ∃ F',Ds T wf F' B (bgD d)/\(∀ j,F' j->Nw F w wf j)/\But F w wf/\Hh wf H B M /\ ¬ F' H:=by
  intro w1 wf hT b1 hb
  obtain⟨F5,h5,hn5⟩:=(Dj.of hW1 hT (fun j hj=>hj) b1).ex
  obtain⟨q1,q2,q3⟩:=do_fin (F:=F) (F1:=F) (w:=w) (wx:=W) (ab:=bb+1) V h.en (.below bW) (fun _ hj=>.inl hj) h5 hn5 b1 (by omega) lW nb1 hb
  exact⟨F5,q1,q2,q3,(hhW.but b1 nH).but hb ne,fun q=>(hn5 _ q).elim nH (fun g=>by have:=g.1;have:=hhW.lt;omega)⟩
 have FH:Hid _:=@FIN
 clear FIN
 generalize bgN d=id1 at KB
 generalize bgF d=g at KB ⊢
 subst hbb
 have HH:=hh.c0
 have HL:=hh.lt
 go_enter Tryz.func16,Tryz.ntmps16
 go_wp2_with (go_at_call 27;rw[<- hW];refine KB.mono ?_;clear KB;rintro e w1 ⟨rfl,hT1,hb1⟩;have ab1:=ab.but hb1 (fun q=>nb1 q);obtain⟨a0,a1,a2,a3,a4,af0,af1,af2,af3,af4⟩:=id ab1)
 exact bodyPost_ret (v:=.tuple #[anV an0 (.slice none 0 0),.int .i64 0,errN g]) (by simp[results,Tryz.results16,go_sem,an0,(ab1.all (.int .i64 0) (.int .i64 0) (.int .i64 0) (.string ⟨#[]⟩) (.slice none 0 0)).c0,(ab1.all (.int .i64 0) (.int .i64 0) (.int .i64 0) (.string ⟨#[]⟩) (.slice none 0 0)).c1,(ab1.all (.int .i64 0) (.int .i64 0) (.int .i64 0) (.string ⟨#[]⟩) (.slice none 0 0)).c2,(ab1.all (.int .i64 0) (.int .i64 0) (.int .i64 0) (.string ⟨#[]⟩) (.slice none 0 0)).c3,(ab1.all (.int .i64 0) (.int .i64 0) (.int .i64 0) (.string ⟨#[]⟩) (.slice none 0 0)).c4];rfl) rfl ⟨rfl,FH.out hT1 hb1 (but_5 _ (But.refl _ _) _ _ _ _ _)⟩
theorem hlOnceCm (V:DFace T) (c:Cl) {H M:Nat} (h:Ds T w F B d) (ok:OkD d) (h1:wt d<=800) (h2:d.ids<=99000) (sz:Spz d) (hh:Hh w H B M) (nH:¬ F H) (g1:bgF d=0) (g2:onG d c=0) (g3:cmF (onX d c) (bgN d)≠0) :
  Calls Tryz.prog 16 #[.pointer (some ⟨H,0,none⟩),clV c] w fun e w'=>e=.returned (.tuple #[anV an0 (.slice none 0 0),.int .i64 0,errN (cmF (onX d c) (bgN d))]) /\ ∃ F',Ds T w' F' B (cmD (onX d c) (bgN d))/\(∀ j,F' j->Nw F w w' j)/\But F w w'/\Hh w' H B M /\ ¬ F' H:=by
 obtain⟨W,hW⟩:∃ W,W=(w.alloc (.cells (clA c) 33)).alloc (.cells #[.int .i64 0,.int .i64 0,.int .i64 0,.string ⟨#[]⟩,.slice none 0 0] 46):=⟨_,rfl⟩
 have bW:Below w.heap.size w W:=by rw[hW];exact below_al (below_al (below_self w) _) _
 obtain⟨bb,hbb⟩:∃ bb,bb=w.heap.size:=⟨_,rfl⟩
 have cb:Cb W bb c:=by rw[hW,hbb];exact (Cb.new w c _).step (below_al (below_self _) _)
 have ab:Ab W (bb+1) (.int .i64 0) (.int .i64 0) (.int .i64 0) (.string ⟨#[]⟩) (.slice none 0 0):=by
  have:=Ab.new (w.alloc (.cells (clA c) 33)) (.int .i64 0) (.int .i64 0) (.int .i64 0) (.string ⟨#[]⟩) (.slice none 0 0) 46
  rw[World.size_alloc] at this
  rw[hW,hbb];exact this
 have hhW:=hh.step bW
 have hW1:=h.step V bW
 have sm0:Sm d:=⟨by omega,by omega⟩
 have KB:=V.begin_ hW1.t ok sm0 hW1.lt
 have KD:=fun (wx:World) (F1:Nat->Prop) (hx:Ds T wx F1 B (bgD d))=>plDo V c (bgN d) hx ok.bg (bg_sm h1 h2)
 obtain⟨o1,o2,o3,o4⟩:=on_good c ok sz
 have KM:=fun (wx:World) (F1:Nat->Prop) (hx:Ds T wx F1 B (onX d c))=>V.commit (bgN d) hx.t o1 ⟨by omega,by omega⟩ hx.lt o4
 rw[g1,ev_0] at KB
 rw[ev_ne g3] at KM
 unfold DoPost at KD
 rw[show runF (doP c) (bgD d) (bgN d)=0 from g2,ev_0,show runD (doP c) (bgD d) (bgN d)=onX d c from rfl] at KD
 have okx:=o1
 clear g1 g2 g3 o1 o2 o3 o4
 have hlb:∀ j,F j->j<w.heap.size:=h.lt
 have en:=h.en
 have lW:bb+1<W.heap.size:=ab.lt
 have sW:=bW.size
 generalize runA (doP c) (bgD d) (bgN d)=a at KD
 generalize cmN (onX d c) (bgN d)=nn at KM
 generalize cmF (onX d c) (bgN d)=g at KM ⊢
 generalize cmD (onX d c) (bgN d)=d3 at KM ⊢
 generalize onX d c=d2 at KD KM okx
 generalize bgN d=id1 at KB KD KM
 have HH:=hh.c0
 have HL:=hh.lt
 go_enter Tryz.func16,Tryz.ntmps16
 go_upto_region 4 with (go_at_call 27;rw[<- hW];refine KB.mono ?_;clear KB;rintro e w1 ⟨rfl,hT1,hb1⟩)
 rw[<- hbb]
 have HBB:Hid (bb=w.heap.size):=hbb
 have dj1:=Dj.of hW1 hT1 (fun j hj=>hj) hb1
 obtain⟨F1,hF1,nx1⟩:=dj1.ex
 have nH1:¬ F1 H:=fun q=>(nx1 _ q).elim nH (fun g=>by have:=g.1;have:=hhW.lt;omega)
 have nb0:¬ F1 bb:=fun q=>(nx1 _ q).elim (fun g=>by have:=hlb _ g;omega) (fun g=>by have:=g.1;omega)
 have nb1:¬ F1 (bb+1):=fun q=>(nx1 _ q).elim (fun g=>by have:=hlb _ g;omega) (fun g=>by have:=g.1;omega)
 have hh1:=hhW.but hb1 nH
 have cb1:Cb w1 bb c:=cb.but hb1 (fun q=>by have:=hlb _ q;omega)
 have ab1:=ab.but hb1 (fun q=>by have:=hlb _ q;omega)
 have KD1:=fun (wx:World) (bx:Below w1.heap.size w1 wx)=>KD wx F1 (hF1.step V bx)
 have LT:Hid (∀ j,F1 j->j<w1.heap.size):=hF1.lt
 have EN:Hid (En w1):=hF1.en
 clear hW hbb KD HH HL
 go_cut [8,9] from 23 to 32 (fun s8 s9 wy=>s8=.nilIface/\OnRel T F1 w1 B d2 a wy s9)
 case first=>
  have sx:∀ {wy:World},Hh wy H B M->Cb wy bb c->wy.cell? ⟨H,0,none⟩=some (.pointer (some ⟨B,0,none⟩))/\wy.cell? ⟨bb,0,none⟩=some (.int .i64 c.what)/\wy.cell? ⟨bb,1,none⟩=some (.string c.nm)/\wy.cell? ⟨bb,2,none⟩=some (.int .i64 c.p.1)/\wy.cell? ⟨bb,3,none⟩=some (.int .i64 c.p.2)/\wy.cell? ⟨bb,4,none⟩=some (.int .i64 c.len)/\wy.cell? ⟨bb,5,none⟩=some (.int .i64 c.ad)/\wy.cell? ⟨bb,6,none⟩=some (.string c.ow):=fun a b=>⟨a.c0,b.q0,b.q1,b.q2,b.q3,b.q4,b.q5,b.q6⟩
  have nz1:¬ H=w1.heap.size:=fun q=>by have:=hh1.lt;omega
  have nz0:¬ bb=w1.heap.size:=fun q=>by have:=cb1.lt;omega
  go_region_held3 (fun wy=>wy.cell? ⟨H,0,none⟩=some (.pointer (some ⟨B,0,none⟩))/\wy.cell? ⟨bb,0,none⟩=some (.int .i64 c.what)/\wy.cell? ⟨bb,1,none⟩=some (.string c.nm)/\wy.cell? ⟨bb,2,none⟩=some (.int .i64 c.p.1)/\wy.cell? ⟨bb,3,none⟩=some (.int .i64 c.p.2)/\wy.cell? ⟨bb,4,none⟩=some (.int .i64 c.len)/\wy.cell? ⟨bb,5,none⟩=some (.int .i64 c.ad)/\wy.cell? ⟨bb,6,none⟩=some (.string c.ow))
   (with_reducible first|exact sx (hh1.step (below_self w1).drew) (cb1.step (below_self w1).drew)|exact sx (hh1.step (below_al (below_self w1) _).drew) (cb1.step (below_al (below_self w1) _).drew)|exact sx (hh1.step (below_al (below_self w1) _)) (cb1.step (below_al (below_self w1) _))|exact sx hh1 cb1|exact sx hh3 cb3|exact sx (hh3.step (below_al (below_self w3) _)) (cb3.step (below_al (below_self w3) _))|exact sx (hh3.but (but_5 w1.heap.size (But.refl (fun j=>j=w1.heap.size) w3) _ _ _ _ _) nz1) (cb3.but (but_5 w1.heap.size (But.refl (fun j=>j=w1.heap.size) w3) _ _ _ _ _) nz0))
   (first
    | (go_at_call 32;with_reducible refine (KD1 _ (below_self w1).drew).mono ?_;rintro e w3 ⟨u,rfl,F2,h3,hn3,b3,row3,sep3⟩;obtain⟨pu,cu,rfl⟩:=own_form row3;have hh3:Hh w3 H B M:=(hh1.step (below_self w1).drew).but b3 nH1;have cb3:Cb w3 bb c:=(cb1.step (below_self w1).drew).but b3 nb0)
    | (go_at_call 32;with_reducible refine (KD1 _ (below_al (below_self w1) _).drew).mono ?_;rintro e w3 ⟨u,rfl,F2,h3,hn3,b3,row3,sep3⟩;obtain⟨pu,cu,rfl⟩:=own_form row3;have hh3:Hh w3 H B M:=(hh1.step (below_al (below_self w1) _).drew).but b3 nH1;have cb3:Cb w3 bb c:=(cb1.step (below_al (below_self w1) _).drew).but b3 nb0;have qx:Ab w3 w1.heap.size (.int .i64 0) (.int .i64 0) (.int .i64 0) (.string ⟨#[]⟩) (.slice none 0 0):=((Ab.new w1 _ _ _ _ _ _).step (below_self _).drew).but b3 (fun q=>absurd (LT.out w1.heap.size q) (Nat.lt_irrefl w1.heap.size));obtain⟨x0,x1,x2,x3,x4,y0,y1,y2,y3,y4⟩:=id qx))
  all_goals (
   go_wp2_with fail
   go_meet)
  all_goals (refine⟨rfl,?_⟩)
  all_goals (first
    | exact on_late V _ h3 (fun j hj=>(hn3 j hj).elim .inl .inr) ((But.refl F1 w1).drew.trans b3) row3 sep3
    | exact on_early V EN.out (below_al (below_self w1) _).drew (by simp) LT.out h3 hn3 b3 qx row3 sep3)
 case rest=>
  obtain⟨rfl,b,pu,cu,F2,rfl,abx,h3,hn3,b3,row3,sep3,lb,nb⟩:=hcut
  have hh3:Hh wc H B M:=hh1.but b3 nH1
  have ab3:=ab1.but b3 nb1
  have s1:=hb1.size
  have s3:=b3.size
  have hN1:∀ j,F1 j->Nw F w w1 j:=fun j hj=>(nx1 j hj).elim .inl (fun g=>.inr ⟨by have:=g.1;omega,g.2⟩)
  have hB1:But F w w1:=(But.below bW).trans hb1
  have hB3:But F w wc:=hB1.then b3 (fun j hj q=>(hN1 j q).elim id (fun g=>by have:=g.1;omega))
  have hN3:∀ j,F2 j->Nw F w wc j:=fun j hj=>(hn3 j hj).elim (fun g=>(hN1 j g).elim .inl (fun q=>.inr ⟨q.1,by have:=q.2;omega⟩)) (fun g=>.inr ⟨by have:=g.1;have:=hB1.size;omega,g.2⟩)
  have nb3:¬ F2 (bb+1):=fun q=>(hn3 _ q).elim nb1 (fun g=>by have:=g.1;have:=ab1.lt;omega)
  have nH3:¬ F2 H:=fun q=>(hn3 _ q).elim nH1 (fun g=>by have:=g.1;have:=hh1.lt;omega)
  have ne:¬ H=bb+1:=fun q=>by have:=hh.lt;have:=HBB.out;omega
  have KM1:=KM wc F2 h3
  have FIN:∀ {w4 wf:World},T w4 (Nw F2 wc w4) B d3->But F2 wc w4->But (fun j=>j=bb+1) w4 wf -> ∃ F',Ds T wf F' B d3/\(∀ j,F' j->Nw F w wf j)/\But F w wf/\Hh wf H B M /\ ¬ F' H:=by
   intro w4 wf hT b4 hb
   obtain⟨F5,h5,hn5⟩:=(Dj.of h3 hT (fun j hj=>hj) b4).ex
   obtain⟨q1,q2,q3⟩:=do_fin (F:=F) (F1:=F2) (w:=w) (wx:=wc) (ab:=bb+1) V en hB3 hN3 h5 hn5 b4 (by have:=HBB.out;omega) ab3.lt nb3 hb
   exact⟨F5,q1,q2,q3,(hh3.but b4 nH3).but hb ne,fun q=>(hn5 _ q).elim nH3 (fun g=>by have:=g.1;have:=hh3.lt;omega)⟩
  have HH:=hh3.c0
  have HL:=hh3.lt
  have FH:Hid _:=@FIN
  clear KM KD1 FIN
  go_wp2_with (go_at_call 30;refine KM1.mono ?_;clear KM1;rintro e w4 ⟨rfl,hT4,hb4⟩;have abx4:=abx.but hb4 nb;have ab4:=ab3.but hb4 nb3;obtain⟨e0,e1,e2,e3,e4,ef0,ef1,ef2,ef3,ef4⟩:=id abx4;obtain⟨a0,a1,a2,a3,a4,af0,af1,af2,af3,af4⟩:=id ab4)
  exact bodyPost_ret (v:=.tuple #[anV an0 (.slice none 0 0),.int .i64 0,errN g]) (by simp[results,Tryz.results16,go_sem,an0,(ab4.all (.int .i64 0) (.int .i64 0) (.int .i64 0) (.string ⟨#[]⟩) (.slice none 0 0)).c0,(ab4.all (.int .i64 0) (.int .i64 0) (.int .i64 0) (.string ⟨#[]⟩) (.slice none 0 0)).c1,(ab4.all (.int .i64 0) (.int .i64 0) (.int .i64 0) (.string ⟨#[]⟩) (.slice none 0 0)).c2,(ab4.all (.int .i64 0) (.int .i64 0) (.int .i64 0) (.string ⟨#[]⟩) (.slice none 0 0)).c3,(ab4.all (.int .i64 0) (.int .i64 0) (.int .i64 0) (.string ⟨#[]⟩) (.slice none 0 0)).c4];rfl) rfl ⟨rfl,FH.out hT4 hb4 (but_5 _ (But.refl _ _) _ _ _ _ _)⟩
end
end Go.Proofs.YtmghmpclmphccaaGreatDoor.Pa
namespace Go.Proofs.YtmghmpclmphccaaGreatDoor.Pa
open Go.RowKit Go.Maps Go.WideShapes Go.ChangeMaps Vs
abbrev Ses:=List (ByteArray×Int)
def sId:Ses->ByteArray->Option Int
 | [],_=>none
 | x :: r,k=>if k=x.1 then some x.2 else sId r k
def sDel:Ses->ByteArray->Ses
 | [],_=>[]
 | x :: r,k=>if k=x.1 then sDel r k else x :: sDel r k
theorem sId_none:∀ {S:Ses} {k:ByteArray},sId S k=none↔k ∉ S.map Prod.fst
 | [],k=>by simp[sId]
 | x :: r,k=>by
  rw[sId,List.map_cons,List.mem_cons]
  by_cases e:k=x.1
  ·rw[if_pos e];simp[e]
  ·rw[if_neg e,sId_none];simp[e]
theorem sId_some {S:Ses} {k:ByteArray}:(sId S k).isSome=true↔k∈S.map Prod.fst:=by
 have:=@sId_none S k
 cases e:sId S k with
 | none=>rw[e] at this;simpa using this.1 rfl
 | some i=>rw[e] at this;simp at this;simpa using this
theorem sId_add:∀ {S:Ses} {k:ByteArray} {i:Int},sId S k=none -> ∀ j,sId (S ++ [(k,i)]) j=if j=k then some i else sId S j
 | [],k,i,_,j=>rfl
 | x :: r,k,i,h,j=>by
  rw[sId] at h
  by_cases e:k=x.1
  ·rw[if_pos e] at h;cases h
  ·rw[if_neg e] at h
   show (if j=x.1 then some x.2 else sId (r ++ [(k,i)]) j)=_
   rw[sId_add h j]
   show _=if j=k then some i else if j=x.1 then some x.2 else sId r j
   by_cases e1:j=x.1
   ·rw[if_pos e1,if_neg (fun q:j=k=>e (q.symm.trans e1)),if_pos e1]
   ·rw[if_neg e1,if_neg e1]
theorem sId_del:∀ (S:Ses) (k j:ByteArray),sId (sDel S k) j=if j=k then none else sId S j
 | [],k,j=>by rw[sDel,sId];split <;> rfl
 | x :: r,k,j=>by
  rw[sDel]
  by_cases e:k=x.1
  ·rw[if_pos e,sId_del r k j,sId]
   by_cases e1:j=k
   ·rw[if_pos e1,if_pos e1]
   ·rw[if_neg e1,if_neg e1,if_neg (fun q=>e1 (q.trans e.symm))]
  ·rw[if_neg e,sId,sId_del r k j,sId]
   by_cases e1:j=x.1
   ·rw[if_pos e1,if_pos e1,if_neg (fun q:j=k=>e (q.symm.trans e1))]
   ·rw[if_neg e1,if_neg e1]
theorem sDel_mem:∀ {S:Ses} {k j:ByteArray},j∈(sDel S k).map Prod.fst->j∈S.map Prod.fst
 | [],_,_,h=>h
 | x :: r,k,j,h=>by
  rw[sDel] at h
  rw[List.map_cons,List.mem_cons]
  by_cases e:k=x.1
  ·rw[if_pos e] at h;exact .inr (sDel_mem h)
  ·rw[if_neg e,List.map_cons,List.mem_cons] at h
   exact h.imp id sDel_mem
theorem sDel_nd:∀ {S:Ses} {k:ByteArray},(S.map Prod.fst).Nodup->((sDel S k).map Prod.fst).Nodup
 | [],_,h=>h
 | x :: r,k,h=>by
  rw[List.map_cons,List.nodup_cons] at h
  rw[sDel]
  by_cases e:k=x.1
  ·rw[if_pos e];exact sDel_nd h.2
  ·rw[if_neg e,List.map_cons,List.nodup_cons]
   exact⟨fun q=>h.1 (sDel_mem q),sDel_nd h.2⟩
theorem sDel_len:∀ (S:Ses) (k:ByteArray),(sDel S k).length<=S.length
 | [],_=>Nat.le_refl _
 | x :: r,k=>by
  rw[sDel]
  have:=sDel_len r k
  split
  ·rw[List.length_cons];omega
  ·rw[List.length_cons,List.length_cons];omega
theorem sAdd_nd {S:Ses} {k:ByteArray} {i:Int} (h:(S.map Prod.fst).Nodup) (hk:sId S k=none):((S ++ [(k,i)]).map Prod.fst).Nodup:=by
 rw[List.map_append,List.nodup_append]
 refine⟨h,by simp,fun a ha b hb e=>?_⟩
 have hb':b=k:=by simpa using hb
 exact sId_none.1 hk (by rw[<- hb',<- e];exact ha)
def SesR (D:DataW Value) (S:Ses):Prop:=∀ k,look D (kS k)=(sId S k).map (fun i=>Value.int .i64 i)
theorem SesR.nil:SesR (.map []) []:=fun k=>by rw[look_empty];rfl
theorem run_delS {w:World} (t e:TypeId) (ht:Tryz.prog.underlying t=some (.map 9 e)) {b n:Nat} {D:DataW Value} (hown:w.ownsMap Tryz.prog 9 anyE b n D) (k:ByteArray) (hk:k.size<=maxLen) :
  ∃ w',(∀ ty,(Builtin.delete_ #[t,9] ty #[.map (some b),.string k]).run Tryz.prog w=.ok (.tuple #[]) w')/\w'.ownsMap Tryz.prog 9 anyE b n (D.del (kS k))/\w.grownBy w' (some b)/\w'.heap.size=w.heap.size:=by
 have hkey:keyOf Tryz.prog 9 (.string k)=some (kS k):=by simp[keyOf,mapKey,Tryz.underlying9,hk]
 obtain⟨es,clock,hb,F,hs,hD⟩:=hown
 obtain⟨es',hrun,F',hle,hdel,_⟩:=Maps.fit_drop (ty:=0) keyed ht hb F hkey
 refine⟨_,fun ty=>?_,⟨es',clock,heap_setBlock_same hb _,F',Nat.le_trans hle hs,by rw[hD,DataW.del_eq,hdel]⟩,⟨rfl,rfl,rfl,by simp[setBlock],fun k _ hk=>heap_setBlock_other hb _ (fun g=>hk (by rw[g]))⟩,by simp[setBlock]⟩
 rw[<- hrun];rfl
theorem run_clearS {w:World} (t e:TypeId) (ht:Tryz.prog.underlying t=some (.map 9 e)) {b n:Nat} {D:DataW Value} (hown:w.ownsMap Tryz.prog 9 anyE b n D) :
  ∃ w',(∀ ty,(Builtin.clear_ #[t] ty #[.map (some b)]).run Tryz.prog w=.ok (.tuple #[]) w')/\w'.ownsMap Tryz.prog 9 anyE b 0 (.map [])/\w.grownBy w' (some b)/\w'.heap.size=w.heap.size:=by
 obtain⟨es,clock,hb,F,hs,hD⟩:=hown
 refine⟨setBlock w b (.map #[] clock),fun ty=>?_,⟨#[],clock,heap_setBlock_same hb _,⟨by simp,MapKept.stamped_empty clock,by simp⟩,Nat.le_refl _,rfl⟩,⟨rfl,rfl,rfl,by simp[setBlock],fun k _ hk=>heap_setBlock_other hb _ (fun g=>hk (by rw[g]))⟩,by simp[setBlock]⟩
 simp[Builtin.clear_,run_underlying ht,MapKept.run_getObj_map hb,MapKept.run_setObj_map _ hb,Result.andThen,setBlock]
structure HlX (T:Td) (w:World) (G:Nat->Prop) (H:Nat) (d:Dk) (S:Ses) (F:Nat->Prop) (B M n:Nat) (D:DataW Value):Prop where
 ds:Ds T w F B d
 hh:Hh w H B M
 mp:w.ownsMap Tryz.prog 9 anyE M n D
 sr:SesR D S
 nH:¬ F H
 nM:¬ F M
 ne:H≠M
 gs:∀ j,G j↔F j \/ j=H \/ j=M
 nd:(S.map Prod.fst).Nodup
 no:∀ j,G j -> ¬ Gl j
def Hl (T:Td) (w:World) (G:Nat->Prop) (H:Nat) (d:Dk) (S:Ses):Prop:=∃ F B M n D,HlX T w G H d S F B M n D
def Hp (T:Td) (G:Nat->Prop) (H:Nat) (w w':World) (d:Dk) (S:Ses):Prop:=∃ G',Hl T w' G' H d S/\(∀ j,G' j->Nw G w w' j)/\But G w w'
section
variable {T:Td} {w w':World} {G F:Nat->Prop} {H B M n:Nat} {D:DataW Value} {d:Dk} {S:Ses}
theorem HlX.ltM (h:HlX T w G H d S F B M n D):M<w.heap.size:=h.mp.lt
theorem HlX.lt (h:HlX T w G H d S F B M n D) {j:Nat} (hj:G j):j<w.heap.size:=by
 rcases (h.gs j).1 hj with q|q|q
 ·exact h.ds.lt j q
 ·rw[q];exact h.hh.lt
 ·rw[q];exact h.ltM
theorem Hl.lt (h:Hl T w G H d S) {j:Nat} (hj:G j):j<w.heap.size:=by
 obtain⟨F,B,M,n,D,hx⟩:=h
 exact hx.lt hj
theorem Hl.en (h:Hl T w G H d S):En w:=by
 obtain⟨F,B,M,n,D,hx⟩:=h
 exact hx.ds.en
theorem Hl.but (V:DFace T) {E:Nat->Prop} (h:Hl T w G H d S) (hb:But E w w') (hE:∀ j,G j -> ¬ E j) (en:En w'):Hl T w' G H d S:=by
 obtain⟨F,B,M,n,D,hx⟩:=h
 exact⟨F,B,M,n,D,⟨⟨V.but hx.ds.t hb (fun j _ hj=>hE j ((hx.gs j).2 (.inl hj))),fun j hj=>Nat.lt_of_lt_of_le (hx.ds.lt j hj) hb.size,hx.ds.no,en⟩,hx.hh.but hb (hE H ((hx.gs H).2 (.inr (.inl rfl)))),map_but hx.mp hb (hE M ((hx.gs M).2 (.inr (.inr rfl)))),hx.sr,hx.nH,hx.nM,hx.ne,hx.gs,hx.nd,hx.no⟩⟩
theorem Hl.step (V:DFace T) (h:Hl T w G H d S) (hb:Below w.heap.size w w'):Hl T w' G H d S:=h.but V (E:=fun _=>False) (.below hb) (fun _ _=>id) (h.en.step hb)
theorem HlX.step (V:DFace T) (h:HlX T w G H d S F B M n D) (hb:Below w.heap.size w w'):HlX T w' G H d S F B M n D:=⟨h.ds.step V hb,h.hh.step hb,map_but (F:=fun _=>False) h.mp (.below hb) id,h.sr,h.nH,h.nM,h.ne,h.gs,h.nd,h.no⟩
theorem HlX.desk {d':Dk} {F':Nat->Prop} (h:HlX T w G H d S F B M n D) (hd:Ds T w' F' B d') (hn:∀ j,F' j->Nw F w w' j) (hb:But F w w'):Hp T G H w w' d' S:=by
 have nw:∀ {j},F' j->j<w.heap.size->F j:=fun hj hl=>(hn _ hj).elim id (fun q=>by have:=q.1;omega)
 have lH:=h.hh.lt
 have lM:=h.ltM
 refine⟨fun j=>F' j \/ j=H \/ j=M,⟨F',B,M,n,D,hd,h.hh.but hb h.nH,map_but h.mp hb h.nM,h.sr,fun q=>h.nH (nw q lH),fun q=>h.nM (nw q lM),h.ne,fun j=>Iff.rfl,h.nd,fun j hj=>?_⟩,fun j hj=>?_,hb.mono (fun j _ hj=>(h.gs j).2 (.inl hj))⟩
 ·rcases hj with q|q|q
  ·exact hd.no j q
  ·exact h.no j ((h.gs j).2 (.inr (.inl q)))
  ·exact h.no j ((h.gs j).2 (.inr (.inr q)))
 ·rcases hj with q|q|q
  ·exact (hn j q).imp (fun g=>(h.gs j).2 (.inl g)) id
  ·exact .inl ((h.gs j).2 (.inr (.inl q)))
  ·exact .inl ((h.gs j).2 (.inr (.inr q)))
theorem HlX.ses (V:DFace T) {S':Ses} {n':Nat} {D':DataW Value} (h:HlX T w G H d S F B M n D) (hb:But (fun j=>j=M) w w') (ho:w'.ownsMap Tryz.prog 9 anyE M n' D') (hr:SesR D' S') (hn:(S'.map Prod.fst).Nodup):Hp T G H w w' d S':=by
 have gM:G M:=(h.gs M).2 (.inr (.inr rfl))
 have en:En w':=h.ds.en.but hb (fun j hj=>by rw[hj];exact h.no M gM)
 refine⟨G,⟨F,B,M,n',D',⟨V.but h.ds.t hb (fun j _ hj q=>h.nM (q ▸ hj)),fun j hj=>Nat.lt_of_lt_of_le (h.ds.lt j hj) hb.size,h.ds.no,en⟩,h.hh.but hb h.ne,ho,hr,h.nH,h.nM,h.ne,h.gs,hn,h.no⟩,fun j hj=>.inl hj,hb.mono (fun j _ hj=>by rw[hj];exact gM)⟩
theorem Hp.refl (h:Hl T w G H d S):Hp T G H w w d S:=⟨G,h,fun _ hj=>.inl hj,But.refl _ _⟩
theorem Hp.then {G1:Nat->Prop} {w1 w2:World} {d2:Dk} {S2:Ses} (hn:∀ j,G1 j->Nw G w w1 j) (hb:But G w w1) (k:Hp T G1 H w1 w2 d2 S2):Hp T G H w w2 d2 S2:=by
 obtain⟨G2,h2,n2,b2⟩:=k
 have s1:=hb.size
 have s2:=b2.size
 refine⟨G2,h2,fun j hj=>?_,hb.then b2 (fun j hj q=>(hn j q).elim id (fun g=>by have:=g.1;omega))⟩
 rcases n2 j hj with g|g
 ·rcases hn j g with q|q
  ·exact .inl q
  ·exact .inr ⟨q.1,by omega⟩
 ·exact .inr ⟨by omega,g.2⟩
theorem Hp.step (V:DFace T) {w2:World} (h:Hp T G H w w' d S) (hb:Below w'.heap.size w' w2):Hp T G H w w2 d S:=by
 obtain⟨G',h1,n1,b1⟩:=h
 exact⟨G',h1.step V hb,fun j hj=>(n1 j hj).imp id (fun q=>⟨q.1,Nat.lt_of_lt_of_le q.2 hb.size⟩),b1.step hb⟩
theorem Hp.ahead {w1:World} (hb:Below w.heap.size w w1) (k:Hp T G H w1 w' d S):Hp T G H w w' d S:=Hp.then (G1:=G) (fun _ hj=>.inl hj) (.below hb) k
theorem hallNew (V:DFace T) (room:Int) (en:En w) (h0:0<=room) (h1:room<=100000) :
  Calls Tryz.prog 7 #[.int .i64 room] w fun e w'=>∃ H G,e=.returned (.tuple #[.pointer (some ⟨H,0,none⟩),.nilIface])/\Hl T w' G H (dk0 room) []/\(∀ j,G j->w.heap.size<=j)/\Below w.heap.size w w':=by
 refine (hlNew V room en h0 h1).mono ?_
 rintro e w' ⟨H,B,M,F,rfl,ds,hh,mp,nH,nM,ne,l1,l2,l3,hb⟩
 have gl:∀ {j},w.heap.size<=j -> ¬ Gl j:=fun hj q=>by have:=en.lt q;omega
 refine⟨H,fun j=>F j \/ j=H \/ j=M,rfl,⟨F,B,M,0,.map [],ds,hh,mp,SesR.nil,nH,nM,ne,fun _=>Iff.rfl,List.nodup_nil,fun j hj=>gl ?_⟩,fun j hj=>?_,hb⟩
 all_goals (rcases hj with q|q|q;exact l1 j q;rw[q];exact l2;rw[q];exact l3)
theorem hallOnce (V:DFace T) (c:Cl) (h:Hl T w G H d S) (ok:OkD d) (h1:wt d<=800) (h2:d.ids<=99000) (sz:Spz d) :
  Calls Tryz.prog 16 #[.pointer (some ⟨H,0,none⟩),clV c] w fun e w'=>∃ u,e=.returned (.tuple #[anV (onA d c) u,.int .i64 (onN d c),ev (onF d c)])/\w'.ownsRow w.heap.size 31 2 u (onA d c).l.length (pfV (onA d c).l)/\Hp T G H w w' (onD d c) S:=by
 obtain⟨F,B,M,n,D,hx⟩:=h
 by_cases g1:bgF d=0
 ·by_cases g2:onG d c=0
  ·by_cases g3:cmF (onX d c) (bgN d)=0
   ·have e1:onF d c=0:=by rw[onF,if_pos g1,if_pos g2,g3]
    have e2:onD d c=cmD (onX d c) (bgN d):=by rw[onD,if_pos g1,if_pos g2]
    rw[onA,onN,if_pos e1,if_pos e1,e1,e2,ev_0]
    refine (hlOnceOk V c hx.ds ok h1 h2 sz hx.hh hx.nH g1 g2 g3).mono ?_
    rintro e w' ⟨u,rfl,row,F',k1,k2,k3,_,_⟩
    exact⟨u,rfl,row,hx.desk k1 k2 k3⟩
   ·have e1:onF d c=cmF (onX d c) (bgN d):=by rw[onF,if_pos g1,if_pos g2]
    have e2:onD d c=cmD (onX d c) (bgN d):=by rw[onD,if_pos g1,if_pos g2]
    rw[onA,onN,if_neg (by rw[e1];exact g3),if_neg (by rw[e1];exact g3),e1,e2,ev_ne g3]
    refine (hlOnceCm V c hx.ds ok h1 h2 sz hx.hh hx.nH g1 g2 g3).mono ?_
    rintro e w' ⟨rfl,F',k1,k2,k3,_,_⟩
    exact⟨_,rfl,World.ownsRow_nil _ _ _ _,hx.desk k1 k2 k3⟩
  ·have e1:onF d c=onG d c:=by rw[onF,if_pos g1,if_neg g2]
   have e2:onD d c=opDel (onX d c) (bgN d):=by rw[onD,if_pos g1,if_neg g2]
   rw[onA,onN,if_neg (by rw[e1];exact g2),if_neg (by rw[e1];exact g2),e1,e2,ev_ne g2]
   refine (hlOnceNo V c hx.ds ok h1 h2 sz hx.hh hx.nH g1 g2).mono ?_
   rintro e w' ⟨rfl,F',k1,k2,k3,_,_⟩
   exact⟨_,rfl,World.ownsRow_nil _ _ _ _,hx.desk k1 k2 k3⟩
 ·have e1:onF d c=bgF d:=by rw[onF,if_neg g1]
  have e2:onD d c=bgD d:=by rw[onD,if_neg g1]
  rw[onA,onN,if_neg (by rw[e1];exact g1),if_neg (by rw[e1];exact g1),e1,e2,ev_ne g1]
  refine (hlOnceBg V c hx.ds ok h1 h2 hx.hh hx.nH g1).mono ?_
  rintro e w' ⟨rfl,F',k1,k2,k3,_,_⟩
  exact⟨_,rfl,World.ownsRow_nil _ _ _ _,hx.desk k1 k2 k3⟩
end
end Go.Proofs.YtmghmpclmphccaaGreatDoor.Pa
namespace Go.Proofs.YtmghmpclmphccaaGreatDoor.Pa
open Go.RowKit Go.Maps Go.WideShapes Go.ChangeMaps Vs
theorem zeroI (w:World):(zeroValue 3).run Tryz.prog w=.ok (.int .i64 0) w:=by kernel_rfl
def sF (S:Ses) (k:ByteArray):Int:=if (sId S k).isSome=true then 0 else 4
def sN (S:Ses) (k:ByteArray):Int:=(sId S k).getD 0
section
variable {T:Td} {w w':World} {G F:Nat->Prop} {H B M n:Nat} {D:DataW Value} {d:Dk} {S:Ses}
theorem hlFind (h:HlX T w G H d S F B M n D) (k:ByteArray) (hk:k.size<=maxLen) :
  Calls Tryz.prog 31 #[.pointer (some ⟨H,0,none⟩),.string k] w fun e w'=>e=.returned (.tuple #[.int .i64 (sN S k),ev (sF S k)])/\w'=w:=by
 have c1:=h.hh.c1
 have l1:=run_lookS 73 3 true Tryz.underlying73 (zeroI w) h.mp k hk
 rw[h.sr k] at l1
 unfold sN sF
 cases e:sId S k with
 | none=>
  rw[e] at l1
  simp only [if_true,Option.map_none,Option.getD_none,Option.isSome_none] at l1
  rw[if_neg (by simp),show ev 4=errN 4 from rfl]
  clear h
  go_enter Tryz.func31,Tryz.ntmps31
  go_wp2
  go_ret2
  exact⟨rfl,rfl⟩
 | some i=>
  rw[e] at l1
  simp only [if_true,Option.map_some,Option.getD_some,Option.isSome_some] at l1
  rw[if_pos (by simp),ev_0]
  clear h
  go_enter Tryz.func31,Tryz.ntmps31
  go_wp2
  go_ret2
  exact⟨rfl,rfl⟩
theorem sesDel {D:DataW Value} {S:Ses} (h:SesR D S) (k:ByteArray):SesR (D.del (kS k)) (sDel S k):=fun j=>by
 rw[sId_del]
 by_cases e:j=k
 ·rw[if_pos e,e,look_del];rfl
 ·rw[if_neg e,look_del_other (kS_ne e)];exact h j
theorem hlEnd (V:DFace T) (h:HlX T w G H d S F B M n D) (k:ByteArray) (hk:k.size<=maxLen) :
  Calls Tryz.prog 28 #[.pointer (some ⟨H,0,none⟩),.string k] w fun e w'=>e=.returned (.tuple #[.int .i64 (sN S k),ev (sF S k)])/\Hp T G H w w' d (sDel S k):=by
 have c1:=h.hh.c1
 have K:=hlFind h k hk
 obtain⟨w1,hrun,ho1,hg1,hs1⟩:=run_delS 73 3 Tryz.underlying73 h.mp k hk
 have P:Hid (Hp T G H w w1 d (sDel S k)):=h.ses V (grown_butM hg1) ho1 (sesDel h.sr k) (sDel_nd h.nd)
 clear ho1 hg1 h
 obtain⟨v,hv,hv1⟩:∃ v:Value,Hid (v=ev (sF S k))/\(v=.nilIface \/ v=errN 4):=⟨_,rfl,by unfold sF;split;exact .inl ev_0;exact .inr rfl⟩
 rw[<- hv.out] at K ⊢
 clear hv
 rcases hv1 with rfl|rfl
 all_goals (
  go_enter Tryz.func28,Tryz.ntmps28
  go_wp2_with (go_at_call 31;refine K.mono ?_;rintro e w2 ⟨rfl,hw⟩;have:=hw.symm;subst this)
  go_ret2
  exact⟨rfl,P.out⟩)
def hoF (d:Dk) (S:Ses) (k:ByteArray):Int:=if Bur.isN k.data.toList=true then (if (sId S k).isSome=true then 6 else bgF d) else 5
def hoD (d:Dk) (S:Ses) (k:ByteArray):Dk:=if Bur.isN k.data.toList=true/\sId S k=none then bgD d else d
def hoS (d:Dk) (S:Ses) (k:ByteArray):Ses:=if hoF d S k=0 then S ++ [(k,bgN d)] else S
def hcF (d:Dk) (S:Ses) (k:ByteArray):Int:=match sId S k with
 | none=>4
 | some i=>cmF d i
def hcN (d:Dk) (S:Ses) (k:ByteArray):Int:=match sId S k with
 | none=>0
 | some i=>cmN d i
def hcD (d:Dk) (S:Ses) (k:ByteArray):Dk:=match sId S k with
 | none=>d
 | some i=>cmD d i
def hqF (d:Dk) (S:Ses) (k:ByteArray):Int:=match sId S k with
 | none=>4
 | some i=>abF d i
def hqD (d:Dk) (S:Ses) (k:ByteArray):Dk:=match sId S k with
 | none=>d
 | some i=>opDel d i
theorem hallClose (V:DFace T) (h:Hl T w G H d S) (ok:OkD d) (sm:Sm d) (sz:Spz d) (k:ByteArray) (hk:k.size<=maxLen) :
  Calls Tryz.prog 10 #[.pointer (some ⟨H,0,none⟩),.string k] w fun e w'=>e=.returned (.tuple #[.int .i64 (hcN d S k),ev (hcF d S k)])/\Hp T G H w w' (hcD d S k) (sDel S k):=by
 obtain⟨F,B,M,n,D,hx⟩:=h
 have K:=hlEnd V hx k hk
 unfold hcN hcF hcD
 unfold sN sF at K
 cases e:sId S k with
 | none=>
  rw[e] at K
  simp only [Option.getD_none,Option.isSome_none] at K
  rw[if_neg (by simp),show ev 4=errN 4 from rfl] at K
  simp only
  rw[show ev 4=errN 4 from rfl]
  go_enter Tryz.func10,Tryz.ntmps10
  go_wp2_with (go_at_call 28;refine K.mono ?_;clear K;rintro e w1 ⟨rfl,hp⟩)
  go_ret2
  exact⟨rfl,hp⟩
 | some i=>
  rw[e] at K
  simp only [Option.getD_some,Option.isSome_some] at K
  rw[if_pos (by simp),ev_0] at K
  simp only
  obtain⟨v,hv,hv1⟩:∃ v:Value,Hid (v=ev (cmF d i))/\(v=.nilIface \/ ∃ f,v=errN f):=⟨_,rfl,by by_cases q:cmF d i=0;exact .inl (by rw[q,ev_0]);exact .inr ⟨_,ev_ne q⟩⟩
  rw[<- hv.out]
  have K2:∀ {w1:World} {F1:Nat->Prop} {B1:Nat},Ds T w1 F1 B1 d->Calls Tryz.prog 30 #[.pointer (some ⟨B1,0,none⟩),.int .i64 i] w1 fun e w'=>e=.returned (.tuple #[.int .i64 (cmN d i),v])/\Dj T F1 w1 w' B1 (cmD d i):=fun hd=>by
   rw[hv.out]
   exact (V.commit i hd.t ok sm hd.lt sz).mono (fun e w' q=>⟨q.1,Dj.of hd q.2.1 (fun j hj=>hj) q.2.2⟩)
  clear hv ok sm sz
  generalize cmN d i=nn at K2 ⊢
  generalize cmD d i=d2 at K2 ⊢
  rcases hv1 with rfl|⟨f,rfl⟩
  all_goals (
   go_enter Tryz.func10,Tryz.ntmps10
   go_wp2_with (first
    | (go_at_call 28;refine K.mono ?_;clear K;rintro e w1 ⟨rfl,G1,⟨F1,B1,M1,n1,D1,hx1⟩,hn1,hb1⟩;have c0:=hx1.hh.c0;have KC:=K2 hx1.ds)
    | (go_at_call 30;refine KC.mono ?_;clear KC;rintro e w2 ⟨rfl,dj⟩))
   go_ret2
   obtain⟨F2,q1,q2⟩:=dj.ex
   exact⟨rfl,Hp.then hn1 hb1 (hx1.desk q1 q2 dj.bt)⟩)
theorem hallQuit (V:DFace T) (h:Hl T w G H d S) (ok:OkD d) (sm:Sm d) (k:ByteArray) (hk:k.size<=maxLen) :
  Calls Tryz.prog 9 #[.pointer (some ⟨H,0,none⟩),.string k] w fun e w'=>e=.returned (ev (hqF d S k))/\Hp T G H w w' (hqD d S k) (sDel S k):=by
 obtain⟨F,B,M,n,D,hx⟩:=h
 have K:=hlEnd V hx k hk
 unfold hqF hqD
 unfold sN sF at K
 cases e:sId S k with
 | none=>
  rw[e] at K
  simp only [Option.getD_none,Option.isSome_none] at K
  rw[if_neg (by simp),show ev 4=errN 4 from rfl] at K
  simp only
  rw[show ev 4=errN 4 from rfl]
  go_enter Tryz.func9,Tryz.ntmps9
  go_wp2_with (go_at_call 28;refine K.mono ?_;clear K;rintro e w1 ⟨rfl,hp⟩)
  go_ret
  exact⟨rfl,hp⟩
 | some i=>
  rw[e] at K
  simp only [Option.getD_some,Option.isSome_some] at K
  rw[if_pos (by simp),ev_0] at K
  simp only
  obtain⟨v,hv,hv1⟩:∃ v:Value,Hid (v=ev (abF d i))/\(v=.nilIface \/ ∃ f,v=errN f):=⟨_,rfl,by by_cases q:abF d i=0;exact .inl (by rw[q,ev_0]);exact .inr ⟨_,ev_ne q⟩⟩
  rw[<- hv.out]
  have K2:∀ {w1:World} {F1:Nat->Prop} {B1:Nat},Ds T w1 F1 B1 d->Calls Tryz.prog 29 #[.pointer (some ⟨B1,0,none⟩),.int .i64 i] w1 fun e w'=>e=.returned v/\Dj T F1 w1 w' B1 (opDel d i):=fun hd=>by
   rw[hv.out]
   exact (V.abort i hd.t ok sm hd.lt).mono (fun e w' q=>⟨q.1,Dj.of hd q.2.1 (fun j hj=>hj) q.2.2⟩)
  clear hv ok sm
  generalize opDel d i=d2 at K2 ⊢
  rcases hv1 with rfl|⟨f,rfl⟩
  all_goals (
   go_enter Tryz.func9,Tryz.ntmps9
   go_wp2_with (first
    | (go_at_call 28;refine K.mono ?_;clear K;rintro e w1 ⟨rfl,G1,⟨F1,B1,M1,n1,D1,hx1⟩,hn1,hb1⟩;have c0:=hx1.hh.c0;have KC:=K2 hx1.ds)
    | (go_at_call 29;refine KC.mono ?_;clear KC;rintro e w2 ⟨rfl,dj⟩))
   go_ret
   obtain⟨F2,q1,q2⟩:=dj.ex
   exact⟨rfl,Hp.then hn1 hb1 (hx1.desk q1 q2 dj.bt)⟩)
theorem sesAdd {D:DataW Value} {S:Ses} (hD:IsMap D) (h:SesR D S) {k:ByteArray} (hk:sId S k=none) (i:Int):SesR (D.put (kS k) (.held (.int .i64 i))) (S ++ [(k,i)]):=fun j=>by
 rw[sId_add hk]
 by_cases e:j=k
 ·rw[if_pos e,e,look_put hD (kS_key k)];rfl
 ·rw[if_neg e,look_put_other (kS_ne e)];exact h j
theorem HlX.tight (h:HlX T w G H d S F B M n D):w.ownsMap Tryz.prog 9 anyE M S.length D:=by
 have e:Maps.size D=(S.map Prod.fst).length:=size_strs h.mp h.nd (fun x=>by rw[h.sr x,Option.isSome_map];exact sId_some.symm)
 have:=own_tight h.mp
 rw[e,List.length_map] at this
 exact this
theorem hallOpen (V:DFace T) (h:Hl T w G H d S) (ok:OkD d) (sm:Sm d) (k:ByteArray) (hk:k.size<=maxLen) (hS:S.length<=1000) :
  Calls Tryz.prog 8 #[.pointer (some ⟨H,0,none⟩),.string k] w fun e w'=>e=.returned (ev (hoF d S k))/\Hp T G H w w' (hoD d S k) (hoS d S k):=by
 obtain⟨F,B,M,n,D,hx⟩:=h
 have KN:=plName k w
 unfold hoS hoD hoF
 unfold Bur.nmF at KN
 by_cases e:Bur.isN k.data.toList=true
 ·rw[if_pos e,ev_0] at KN
  rw[if_pos e]
  have L1:∀ {w1:World},Below w.heap.size w w1->_:=fun {w1} hb=>run_lookS 73 3 true Tryz.underlying73 (zeroI w1) (hx.step V hb).mp k hk
  rw[hx.sr k] at L1
  cases q:sId S k with
  | some i=>
   rw[q] at L1
   simp only [if_true,Option.map_some,Option.getD_some,Option.isSome_some] at L1
   rw[if_pos (by simp),if_neg (by simp),if_neg (by decide),show ev 6=errN 6 from rfl]
   go_enter Tryz.func8,Tryz.ntmps8
   go_wp2_with (go_at_call 26;refine KN.mono ?_;clear KN;rintro e w1 ⟨rfl,hb1⟩;have c1:=(hx.step V hb1).hh.c1;have l1:=L1 hb1)
   go_ret
   exact⟨rfl,Hp.step V (Hp.refl ⟨F,B,M,n,D,hx⟩) hb1⟩
  | none=>
   rw[q] at L1
   simp only [if_true,Option.map_none,Option.getD_none,Option.isSome_none] at L1
   rw[if_neg (by simp),if_pos ⟨e,rfl⟩]
   have K2:∀ {w1:World} {F1:Nat->Prop} {B1:Nat},Ds T w1 F1 B1 d->Calls Tryz.prog 27 #[.pointer (some ⟨B1,0,none⟩)] w1 fun e w'=>e=.returned (.tuple #[.int .i64 (bgN d),ev (bgF d)])/\Dj T F1 w1 w' B1 (bgD d):=fun hd=>
    (V.begin_ hd.t ok sm hd.lt).mono (fun e w' q=>⟨q.1,Dj.of hd q.2.1 (fun j hj=>hj) q.2.2⟩)
   have hkey:keyOf Tryz.prog 9 (.string k)=some (kS k):=by simp[keyOf,mapKey,Tryz.underlying9,hk]
   by_cases g:bgF d=0
   ·rw[g,ev_0] at K2
    rw[if_pos g,g,ev_0]
    generalize bgN d=id1 at K2 ⊢
    generalize bgD d=d1 at K2 ⊢
    clear ok sm
    go_enter Tryz.func8,Tryz.ntmps8
    go_wp2_with (first
     | (go_at_call 26;refine KN.mono ?_;clear KN;rintro e w1 ⟨rfl,hb1⟩;have hx1:=hx.step V hb1;have c1:=hx1.hh.c1;have c0:=hx1.hh.c0;have l1:=L1 hb1;have KB:=K2 hx1.ds)
     | (go_at_call 27;refine KB.mono ?_;clear KB;rintro e w2 ⟨rfl,dj⟩;obtain⟨F2,q1,q2⟩:=dj.ex;obtain⟨G2,⟨F3,B3,M3,n3,D3,hx2⟩,hn2,hb2⟩:=hx1.desk q1 q2 dj.bt;have m1:=hx2.hh.c1;have ho2:=hx2.tight;obtain⟨w5,hput,own5,hg5⟩:=ho2.update keyed Tryz.underlying73 (by unfold maxLen;omega) hkey (val:=.int .i64 id1) (d:=.held (.int .i64 id1)) (ps:=[]) rfl))
    go_ret
    exact⟨rfl,Hp.ahead hb1 (Hp.then hn2 hb2 (hx2.ses V (grown_butM hg5) own5 (sesAdd ho2.isMap hx2.sr q _) (sAdd_nd hx2.nd q)))⟩
   ·rw[ev_ne g] at K2
    rw[if_neg g,ev_ne g]
    generalize bgN d=id1 at K2 ⊢
    generalize bgD d=d1 at K2 ⊢
    generalize bgF d=f at K2 ⊢
    clear ok sm
    go_enter Tryz.func8,Tryz.ntmps8
    go_wp2_with (first
     | (go_at_call 26;refine KN.mono ?_;clear KN;rintro e w1 ⟨rfl,hb1⟩;have hx1:=hx.step V hb1;have c1:=hx1.hh.c1;have c0:=hx1.hh.c0;have l1:=L1 hb1;have KB:=K2 hx1.ds)
     | (go_at_call 27;refine KB.mono ?_;clear KB;rintro e w2 ⟨rfl,dj⟩;obtain⟨F2,q1,q2⟩:=dj.ex))
    go_ret
    exact⟨rfl,Hp.ahead hb1 (hx1.desk q1 q2 dj.bt)⟩
 ·rw[if_neg e,show ev 5=errN 5 from rfl] at KN
  rw[if_neg e,if_neg (fun q=>e q.1),if_neg (by decide),show ev 5=errN 5 from rfl]
  go_enter Tryz.func8,Tryz.ntmps8
  go_wp2_with (go_at_call 26;refine KN.mono ?_;clear KN;rintro e w1 ⟨rfl,hb1⟩)
  go_ret
  exact⟨rfl,Hp.step V (Hp.refl ⟨F,B,M,n,D,hx⟩) hb1⟩
theorem hallAll (V:DFace T) (h:Hl T w G H d S) (ok:OkD d) (sm:Sm d) :
  Calls Tryz.prog 15 #[.pointer (some ⟨H,0,none⟩)] w fun e w'=>∃ (q:Option Addr) (cq:Nat),e=.returned (.slice q (allP d).length cq)/\(allP d).length<=cq/\PrIn (fun j=>w.heap.size<=j) w' q (allP d)/\Below w.heap.size w w':=by
 obtain⟨F,B,M,n,D,hx⟩:=h
 have c0:=hx.hh.c0
 have K:=V.all hx.ds.t ok sm
 go_enter Tryz.func15,Tryz.ntmps15
 go_wp2_with (go_at_call 34;refine K.mono ?_;clear K;rintro e w1 ⟨q,cq,rfl,h1,h2,h3⟩)
 go_ret
 exact⟨q,cq,rfl,h1,h2,h3⟩
end
end Go.Proofs.YtmghmpclmphccaaGreatDoor.Pa
namespace Go.Proofs.YtmghmpclmphccaaGreatDoor.Pa
open Go.RowKit Vs
theorem dp_run {k:Nat} {d:Dk} (h:Dp k d) (c:Cl) (i:Int):Dp (k+1) (runD (doP c) d i):=by
 obtain⟨a1,a2,a3,a4⟩:=run_good (doP c) d i (gd_do c) h.ok h.spz
 exact⟨a1,by have:=h.wl;omega,by have:=h.ids;omega,a4⟩
end Go.Proofs.YtmghmpclmphccaaGreatDoor.Pa
namespace Go.Proofs.YtmghmpclmphccaaGreatDoor.Pa
open Go.RowKit Vs
def lgF (vs:List Ver) (o:Ox) (k:ByteArray):Int:=if shF k ByteArray.empty=0 then (if 100<=o.asked then 3 else if (seeO vs o.sees o.own k).isSome=true then 0 else 4) else 2
def lgS (vs:List Ver) (o:Ox) (k:ByteArray):ByteArray:=if shF k ByteArray.empty=0 then (if 100<=o.asked then ByteArray.empty else (seeO vs o.sees o.own k).getD ByteArray.empty) else ByteArray.empty
def lgO (o:Ox) (k:ByteArray):Ox:=if shF k ByteArray.empty=0 then (if 100<=o.asked then o else askK o k) else o
def lrF (o:Ox):Int:=if 100<=o.asked then 3 else 0
def lrS (vs:List Ver) (o:Ox) (lo hi:ByteArray):List Pr:=if 100<=o.asked then [] else rngO vs o.sees o.own lo hi
def lrO (o:Ox) (lo hi:ByteArray):Ox:=if 100<=o.asked then o else askR o lo hi
def lcF (o:Ox) (c:Chg):Int:=if shF c.k c.v=0 then (if 20<(insC o.own c).length then 3 else 0) else 2
def lcO (o:Ox) (c:Chg):Ox:=if shF c.k c.v=0 then (if 20<(insC o.own c).length then o else { o with own:=insC o.own c }) else o
def loR:Pg->List Ver->Ox->An×Int×Ox
 | .ret a f,_,o=>(a,f,o)
 | .get k K,vs,o=>loR (K (lgS vs o k) (lgF vs o k)) vs (lgO o k)
 | .rng lo hi K,vs,o=>loR (K (lrS vs o lo hi) (lrF o)) vs (lrO o lo hi)
 | .chg c K,vs,o=>loR (K (lcF o c)) vs (lcO o c)
theorem lgO_id (o:Ox) (k:ByteArray):(lgO o k).id=o.id/\(lgO o k).sees=o.sees/\(lgO o k).own=o.own:=by
 unfold lgO;split <;> (try split) <;> exact⟨rfl,rfl,rfl⟩
theorem lrO_id (o:Ox) (lo hi:ByteArray):(lrO o lo hi).id=o.id/\(lrO o lo hi).sees=o.sees/\(lrO o lo hi).own=o.own:=by
 unfold lrO;split <;> exact⟨rfl,rfl,rfl⟩
theorem lcO_id (o:Ox) (c:Chg):(lcO o c).id=o.id/\(lcO o c).sees=o.sees:=by
 unfold lcO;split <;> (try split) <;> exact⟨rfl,rfl⟩
theorem lo_id:∀ (g:Pg) (vs:List Ver) (o:Ox),(loR g vs o).2.2.id=o.id/\(loR g vs o).2.2.sees=o.sees
 | .ret _ _,_,_=>⟨rfl,rfl⟩
 | .get k K,vs,o=>by
  have a:=lo_id (K (lgS vs o k) (lgF vs o k)) vs (lgO o k)
  have b:=lgO_id o k
  exact⟨a.1.trans b.1,a.2.trans b.2.1⟩
 | .rng lo hi K,vs,o=>by
  have a:=lo_id (K (lrS vs o lo hi) (lrF o)) vs (lrO o lo hi)
  have b:=lrO_id o lo hi
  exact⟨a.1.trans b.1,a.2.trans b.2.1⟩
 | .chg c K,vs,o=>by
  have a:=lo_id (K (lcF o c)) vs (lcO o c)
  have b:=lcO_id o c
  exact⟨a.1.trans b.1,a.2.trans b.2⟩
theorem set_set {d:Dk} {o o':Ox} (e:o.id=o'.id):opSet (opSet d o) o'=opSet d o':=by
 unfold opSet
 simp only [List.map_map]
 congr 1
 refine List.map_congr_left (fun x _=>?_)
 show (if (if x.id=o.id then o else x).id=o'.id then o' else if x.id=o.id then o else x)=_
 by_cases h:x.id=o.id
 ·rw[if_pos h,if_pos e,if_pos (h.trans e)]
 ·rw[if_neg h]
theorem set_ids {d:Dk} (h:d.op.Pairwise (fun a b=>a.id<b.id)) (o':Ox):(opSet d o').op.Pairwise (fun a b=>a.id<b.id):=by
 show (d.op.map _).Pairwise _
 refine List.pairwise_map.2 (h.imp (fun {a b} hab=>?_))
 by_cases ha:a.id=o'.id
 ·rw[if_pos ha]
  by_cases hb:b.id=o'.id
  ·omega
  ·rw[if_neg hb];omega
 ·rw[if_neg ha]
  by_cases hb:b.id=o'.id
  ·rw[if_pos hb];omega
  ·rw[if_neg hb];exact hab
theorem set_o {d:Dk} {i:Int} {o o':Ox} (h:opI d i=some o) (e:o'.id=o.id):opI (opSet d o') i=some o':=by
 have q:=(opI_some h).2
 rw[opI_set (o:=o) (by rw[q];exact h) e i,if_pos q.symm]
theorem run_lo:∀ (g:Pg) (d:Dk) (i:Int) (o:Ox),d.op.Pairwise (fun a b=>a.id<b.id)->opI d i=some o->runA g d i=(loR g d.vs o).1/\runF g d i=(loR g d.vs o).2.1/\runD g d i=opSet d (loR g d.vs o).2.2
 | .ret a f,d,i,o,hp,h=>⟨rfl,rfl,(opSet_self hp (opI_some h).1).symm⟩
 | .get k K,d,i,o,hp,h=>by
  have e1:dgS d i k=lgS d.vs o k:=by unfold dgS;rw[h];rfl
  have e2:dgF d i k=lgF d.vs o k:=by unfold dgF;rw[h];rfl
  have e3:dgD d i k=opSet d (lgO o k):=by
   unfold dgD lgO
   rw[h]
   simp only
   split
   ·split
    ·exact (opSet_self hp (opI_some h).1).symm
    ·rfl
   ·exact (opSet_self hp (opI_some h).1).symm
  have q:=run_lo (K (lgS d.vs o k) (lgF d.vs o k)) (opSet d (lgO o k)) i (lgO o k) (set_ids hp _) (set_o h (lgO_id o k).1)
  rw[set_set (by rw[(lo_id _ _ _).1])] at q
  show runA (K (dgS d i k) (dgF d i k)) (dgD d i k) i=_/\runF (K (dgS d i k) (dgF d i k)) (dgD d i k) i=_/\runD (K (dgS d i k) (dgF d i k)) (dgD d i k) i=_
  rw[e1,e2,e3]
  exact q
 | .rng lo hi K,d,i,o,hp,h=>by
  have e1:drS d i lo hi=lrS d.vs o lo hi:=by unfold drS;rw[h];rfl
  have e2:drF d i=lrF o:=by unfold drF;rw[h];rfl
  have e3:drD d i lo hi=opSet d (lrO o lo hi):=by
   unfold drD lrO
   rw[h]
   simp only
   split
   ·exact (opSet_self hp (opI_some h).1).symm
   ·rfl
  have q:=run_lo (K (lrS d.vs o lo hi) (lrF o)) (opSet d (lrO o lo hi)) i (lrO o lo hi) (set_ids hp _) (set_o h (lrO_id o lo hi).1)
  rw[set_set (by rw[(lo_id _ _ _).1])] at q
  show runA (K (drS d i lo hi) (drF d i)) (drD d i lo hi) i=_/\runF (K (drS d i lo hi) (drF d i)) (drD d i lo hi) i=_/\runD (K (drS d i lo hi) (drF d i)) (drD d i lo hi) i=_
  rw[e1,e2,e3]
  exact q
 | .chg c K,d,i,o,hp,h=>by
  have e2:dcF d i c=lcF o c:=by unfold dcF;rw[h];rfl
  have e3:dcD d i c=opSet d (lcO o c):=by
   unfold dcD lcO
   rw[h]
   simp only
   split
   ·split
    ·exact (opSet_self hp (opI_some h).1).symm
    ·rfl
   ·exact (opSet_self hp (opI_some h).1).symm
  have q:=run_lo (K (lcF o c)) (opSet d (lcO o c)) i (lcO o c) (set_ids hp _) (set_o h (lcO_id o c).1)
  rw[set_set (by rw[(lo_id _ _ _).1])] at q
  show runA (K (dcF d i c)) (dcD d i c) i=_/\runF (K (dcF d i c)) (dcD d i c) i=_/\runD (K (dcF d i c)) (dcD d i c) i=_
  rw[e2,e3]
  exact q
end Go.Proofs.YtmghmpclmphccaaGreatDoor.Pa
namespace Go.Proofs.YtmghmpclmphccaaGreatDoor.Pa
open Go.RowKit Vs
theorem shF_of {k v:ByteArray} (h1:1<=k.size) (h2:k.size<=24) (h3:v.size<=12):shF k v=0:=if_neg (by omega)
theorem see_ins {vs:List Ver} {s:Int} {own:List Chg} (hr:risC own) (c:Chg) (k:ByteArray):seeO vs s (insC own c) k=if k=c.k then (if c.g=true then none else some c.v) else seeO vs s own k:=by
 unfold seeO
 rw[ownC_ins hr]
 by_cases e:k=c.k
 ·rw[if_pos e,if_pos e]
 ·rw[if_neg e,if_neg e]
theorem own_get {vs:List Ver} {top s n:Int} (hT:OkT vs top) (hs:top<=s) (hn:s<n) {own:List Chg} (hr:risC own) (k:ByteArray):vget (vs++own.map (verC n)) k n=seeO vs s own k:=by
 have hv:vs.filter (hit k n)=vs.filter (hit k s):=by
  refine List.filter_congr (fun x hx=>?_)
  have:=(hT.each x hx).2
  unfold hit
  rw[decide_eq_true (show x.n<=n by omega),decide_eq_true (show x.n<=s by omega)]
 unfold vget see seeO
 rw[List.filter_append,List.getLast?_append,hv]
 cases e:ownC own k with
 | none=>
  have:(own.map (verC n)).filter (hit k n)=[]:=by
   refine List.filter_eq_nil_iff.2 (fun x hx=>?_)
   obtain⟨c,hc,rfl⟩:=List.mem_map.1 hx
   have:=ownC_none.1 e c hc
   simp[hit,verC,this]
  rw[this]
  rfl
 | some c=>
  obtain⟨e1,e2⟩:=ownC_some e
  have hm:verC n c∈(own.map (verC n)).filter (hit k n):=List.mem_filter.2 ⟨List.mem_map.2 ⟨c,e1,rfl⟩,by simp[hit,verC,e2]⟩
  have hl:((own.map (verC n)).filter (hit k n)).getLast? = some (verC n c):=by
   cases q:((own.map (verC n)).filter (hit k n)).getLast? with
   | none=>rw[List.getLast?_eq_none_iff] at q;rw[q] at hm;simp at hm
   | some y=>
    obtain⟨m1,m2⟩:=List.mem_filter.1 (List.mem_of_getLast? q)
    obtain⟨c',hc',rfl⟩:=List.mem_map.1 m1
    have ek:c'.k=k:=by
     have:(decide (c'.k=k)&&decide ((n:Int)<=n))=true:=m2
     simpa using this
    rw[ris_once hr hc' e1 (ek.trans e2.symm)]
  rw[hl]
  rfl
theorem lo_asks {k:ByteArray} {K:ByteArray->Bool->Pg} {vs:List Ver} {o:Ox} (hk:shF k ByteArray.empty=0) (ha:o.asked<100) :
  loR (asks k K) vs o=match seeO vs o.sees o.own k with
   | none=>loR (K ByteArray.empty false) vs (askK o k)
   | some v=>loR (K v true) vs (askK o k):=by
 have hn:¬ 100<=o.asked:=by omega
 show loR ((fun v f=>if f=4 then K ByteArray.empty false else if f=0 then K v true else err f) (lgS vs o k) (lgF vs o k)) vs (lgO o k)=_
 unfold lgS lgF lgO
 simp only [hk,if_true,hn,if_false]
 cases seeO vs o.sees o.own k <;> simp
theorem lo_allL {n:ByteArray} {K:List Lot->Pg} {vs:List Ver} {o:Ox} (ha:o.asked<100):loR (allL n K) vs o=loR (K (lots (rngO vs o.sees o.own (loK 112 n) (heK 112 n)))) vs (askR o (loK 112 n) (heK 112 n)):=by
 have hn:¬ 100<=o.asked:=by omega
 show loR ((fun l f=>if f=0 then K (lots l) else err f) (lrS vs o (loK 112 n) (heK 112 n)) (lrF o)) vs (lrO o (loK 112 n) (heK 112 n))=_
 unfold lrS lrF lrO
 simp[hn]
theorem lo_allA {n:ByteArray} {K:List Int->Pg} {vs:List Ver} {o:Ox} (ha:o.asked<100):loR (allA n K) vs o=loR (K (plcd (rngO vs o.sees o.own (loK 97 n) (heK 97 n)))) vs (askR o (loK 97 n) (heK 97 n)):=by
 have hn:¬ 100<=o.asked:=by omega
 show loR ((fun l f=>if f=0 then K (plcd l) else err f) (lrS vs o (loK 97 n) (heK 97 n)) (lrF o)) vs (lrO o (loK 97 n) (heK 97 n))=_
 unfold lrS lrF lrO
 simp[hn]
theorem insC_len:∀ (l:List Chg) (c:Chg),(insC l c).length<=l.length+1
 | [],_=>Nat.le_refl _
 | x :: r,c=>by
  rw[insC]
  split
  ·simp
  ·split
   ·simp
   ·have:=insC_len r c
    simp only [List.length_cons]
    omega
def nw:ByteArray:=⟨#[110,101,119]⟩
structure Bt (m n:Nat) (o o':Ox):Prop where
 id:o'.id=o.id
 se:o'.sees=o.sees
 ask:o'.asked<=o.asked+m
 len:o'.own.length<=o.own.length+n
theorem sh_nm {c:Cl} (h:clF c=0):shF (kN c.nm) ByteArray.empty=0:=shF_of (by rw[kN_size];omega) (by rw[kN_size];have:=(clF_in h).2.2;omega) (by decide)
theorem sh_pk {c:Cl} (h:clF c=0) (p:Bur.Sp) {v:ByteArray} (hv:v.size<=12):shF (kP c.nm p) v=0:=shF_of (by rw[kP_size];omega) (by rw[kP_size];have:=(clF_in h).2.2;omega) hv
theorem sh_ak {c:Cl} (h:clF c=0) (a:Int) {v:ByteArray} (hv:v.size<=12):shF (kA c.nm a) v=0:=shF_of (by rw[kA_size];omega) (by rw[kA_size];have:=(clF_in h).2.2;omega) hv
theorem lo_bad {c:Cl} (h:clF c≠0) (vs:List Ver) (o:Ox):loR (doP c) vs o=(an0,clF c,o):=by
 unfold doP
 rw[if_neg h]
 rfl
theorem body_no {c:Cl} (h:c.what≠1):pBody c false=err 4:=by simp[pBody,h]
theorem body_2 {c:Cl} (h:c.what=2):pBody c true=pAdd c:=by simp[pBody,h]
theorem body_3 {c:Cl} (h:c.what=3):pBody c true=pTake c:=by simp[pBody,h]
theorem body_4 {c:Cl} (h:c.what=4):pBody c true=pPlace c:=by simp[pBody,h]
theorem body_5 {c:Cl} (h:c.what=5):pBody c true=pLeave c:=by simp[pBody,h]
theorem body_9 {c:Cl} (h:c.what=9):pBody c true=pWho c:=by simp[pBody,h]
structure Sg (k:Nat) (d:Dk) (o:Ox):Prop where
 dp:Dp k d
 op1:d.op=[o]
 se:o.sees=d.last
 up:UpL d.lg
 ls:2*d.lg.ls.length<=k
end Go.Proofs.YtmghmpclmphccaaGreatDoor.Pa
