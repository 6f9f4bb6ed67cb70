/- -/
import Derived.Test.YtmghmpclmphccaaGreatDoorGPlR
set_option maxHeartbeats 8000000
set_option maxRecDepth 100000
namespace Go.Proofs.YtmghmpclmphccaaGreatDoor.Pa
open Go.RowKit Go.Maps Vs
section
variable {T:Td}{w:World}{F:Nat->Prop}{B:Nat}{d:Dk}
theorem ahl (V:aG T)(c:Cl)(i:Int)(h:Ds T w F B d)(ok:OkD d)(sm:Sm d)(hcl:clF c=0) :
  Calls Tryz.prog 63 #[wkV B c i] w fun e w'=>su T F w B (aH (zK c) d i) (aI (zK c) d i) (aF (zK c) d i) e w':=by
 obtain⟨_,_,hnm⟩:=sG hcl
 have hn:c.nm.size<=1000:=by omega
 obtain⟨W,hW⟩:∃W,W=(w.alloc (.cells (wkA B c i) 130)).alloc (.cells #[.int .i64 0,.int .i64 0,.int .i64 0,.string ⟨#[]⟩,.slice none 0 0] 46):=⟨_,rfl⟩
 have bW:Below w.heap.size w W:=by rw[hW];exact aj (aj (ah w) _) _
 obtain⟨bb,hbb⟩:∃bb,bb=w.heap.size:=⟨_,rfl⟩
 have wk:Wk W bb B c i:=by rw[hW,hbb];exact (Wk.new w B c i 130).step (aj (ah _) _)
 have ab:Ab W (bb+1) (.int .i64 0) (.int .i64 0) (.int .i64 0) (.string ⟨#[]⟩) (.slice none 0 0):=by
  have:=Ab.new (w.alloc (.cells (wkA B c i) 130)) (.int .i64 0) (.int .i64 0) (.int .i64 0) (.string ⟨#[]⟩) (.slice none 0 0) 46
  rw[World.size_alloc] at this
  rw[hW,hbb];exact this
 have hW1:=h.step V bW
 have KK:=fun W'=>D9 c.nm W' hn
 rw[show (⟨(Bur.xZ c.nm.data.toList).toArray⟩:ByteArray)=kN c.nm from rfl] at KK
 have KF:=fun w3 (b3:Below W.heap.size W w3)=>Ad V c i (kN c.nm) (hW1.step V b3) ok sm (by rw[CP];unfold maxLen;omega)
 have hbx:¬F bb:=fun q=>by have:=h.lt _ q;omega
 have hby:¬F (bb+1):=fun q=>by have:=h.lt _ q;omega
 have rel:∀w3 w4,Below W.heap.size W w3->Dj T F w3 w4 B (dgD d i (kN c.nm))->Wk w4 bb B c i -> ∃F4,Ds T w4 F4 B (dgD d i (kN c.nm))/\(∀j,F4 j->Nw F w w4 j)/\But F w w4/\Wk w4 bb B c i/\Ab w4 (bb+1) (.int .i64 0) (.int .i64 0) (.int .i64 0) (.string ⟨#[]⟩) (.slice none 0 0) /\ ¬F4 (bb+1):=fun w3 w4 b3 hj4 wk4=>by
  obtain⟨F4,h4,hn4⟩:=hj4.ex
  have s1:=bW.size
  have s3:=b3.size
  have s4:=hj4.bt.size
  have l1:=ab.lt
  have e1:But F w w3:=.below (ak bW b3)
  refine⟨F4,h4,fun j hj=>?_,e1.trans hj4.bt,wk4,(ab.step b3).but hj4.bt hby,fun q=>?_⟩
  ·rcases hn4 j hj with g|g
   ·exact .inl g
   ·exact .inr ⟨by have:=g.1;omega,g.2⟩
  ·rcases hn4 _ q with g|g
   ·exact hby g
   ·have:=g.1;omega
 have okg:=ok.dg i (kN c.nm)
 have smg:=Sm.dg sm ok i (kN c.nm)
 rw[zJ]
 rcases iy (d:=d) i (kN c.nm) with ⟨f1,f2,f3,f4⟩|⟨f1,f2,f3,f4⟩|⟨f0,f1,f2,f3⟩
 ·obtain⟨a1,a2,a3⟩:=xK (d:=d) (i:=i) (k:=kN c.nm) (K:=fun _ is=>aN c is) f1
  rw[a1,a2,a3]
  rw[f2,f3,aB] at KF
  obtain⟨SS,hSS⟩:∃SS,Hid (SS=fnS d i (kN c.nm)):=⟨_,rfl⟩
  rw[<- hSS.out] at KF
  have REL:Hid _:=rel
  clear rel a1 a2 a3 f1 f2 f3 f4 hW1
  go_enter Tryz.func63,Tryz.ntmps63
  go_upto_region 1 with fail
  rw[<- hW]
  rw[<- hbb]
  have HBB:Hid (bb=w.heap.size):=hbb
  clear hW bW hbb
  go_cut [3,4,5] from 6 to 15 (fun s3 s4 s5 wy=>∃F4,s3=.nilIface/\s4=.string SS/\s5=.bool false/\Ds T wy F4 B (dgD d i (kN c.nm))/\(∀j,F4 j->Nw F w wy j)/\But F w wy/\Wk wy bb B c i/\Ab wy (bb+1) (.int .i64 0) (.int .i64 0) (.int .i64 0) (.string ⟨#[]⟩) (.slice none 0 0) /\ ¬F4 (bb+1))
  case first=>
   obtain⟨k0,k1,k2,k3,k4,k5,k6,k7,k8⟩:=id wk
   go_region_held3 (fun wy=>wy.cell? ⟨bb,0,none⟩=some (.pointer (some ⟨B,0,none⟩))/\wy.cell? ⟨bb,1,none⟩=some (.int .i64 c.what)/\wy.cell? ⟨bb,2,none⟩=some (.string c.nm)/\wy.cell? ⟨bb,3,none⟩=some (.int .i64 c.p.1)/\wy.cell? ⟨bb,4,none⟩=some (.int .i64 c.p.2)/\wy.cell? ⟨bb,5,none⟩=some (.int .i64 c.len)/\wy.cell? ⟨bb,6,none⟩=some (.int .i64 c.ad)/\wy.cell? ⟨bb,7,none⟩=some (.string c.ow)/\wy.cell? ⟨bb,8,none⟩=some (.int .i64 i))
    (first|exact⟨wk4.c0,wk4.c1,wk4.c2,wk4.c3,wk4.c4,wk4.c5,wk4.c6,wk4.c7,wk4.c8⟩|exact⟨wk3.c0,wk3.c1,wk3.c2,wk3.c3,wk3.c4,wk3.c5,wk3.c6,wk3.c7,wk3.c8⟩|exact⟨k0,k1,k2,k3,k4,k5,k6,k7,k8⟩)
    (first
     | (go_at_call 96;refine (KK _).mono ?_;clear KK;rintro e w3 ⟨rfl,hw3⟩;have wk3:Wk w3 bb B c i:=(by rw[hw3];exact wk.step (ah W).drew);have b3:Below W.heap.size W w3:=(by rw[hw3];exact (ah W).drew);have KF1:=KF w3 b3;clear hw3)
     | (go_at_call 95;refine KF1.mono ?_;clear KF1;rintro e w4 ⟨rfl,hj4⟩;have wk4:Wk w4 bb B c i:=wk3.but hj4.bt hbx))
   all_goals (
    go_wp2_with fail
    go_meet)
   case rel=>
    obtain⟨F4,hh⟩:=REL.out w3 w4 b3 hj4 wk4
    exact⟨F4,rfl,rfl,rfl,hh⟩
  case rest=>
   obtain⟨F4,rfl,rfl,rfl,h4,hN4,hB4,wk4,ab4,n4⟩:=hcut
   obtain rfl:=HBB.out
   refine ‹∀(a:Act) (w:World),Code.wp _ _ _ a w->_› _ _ ?_
   exact adO V c i false h.en h4 okg smg hcl wk4 ab4 n4 hN4 hB4
 ·obtain⟨a1,a2,a3⟩:=qo (d:=d) (i:=i) (k:=kN c.nm) (K:=fun _ is=>aN c is) f1
  rw[a1,a2,a3]
  rw[f2,f3,aB] at KF
  obtain⟨SS,hSS⟩:∃SS,Hid (SS=fnS d i (kN c.nm)):=⟨_,rfl⟩
  rw[<- hSS.out] at KF
  have REL:Hid _:=rel
  clear rel a1 a2 a3 f1 f2 f3 f4 hW1
  go_enter Tryz.func63,Tryz.ntmps63
  go_upto_region 1 with fail
  rw[<- hW]
  rw[<- hbb]
  have HBB:Hid (bb=w.heap.size):=hbb
  clear hW bW hbb
  go_cut [3,4,5] from 6 to 15 (fun s3 s4 s5 wy=>∃F4,s3=.nilIface/\s4=.string SS/\s5=.bool true/\Ds T wy F4 B (dgD d i (kN c.nm))/\(∀j,F4 j->Nw F w wy j)/\But F w wy/\Wk wy bb B c i/\Ab wy (bb+1) (.int .i64 0) (.int .i64 0) (.int .i64 0) (.string ⟨#[]⟩) (.slice none 0 0) /\ ¬F4 (bb+1))
  case first=>
   obtain⟨k0,k1,k2,k3,k4,k5,k6,k7,k8⟩:=id wk
   go_region_held3 (fun wy=>wy.cell? ⟨bb,0,none⟩=some (.pointer (some ⟨B,0,none⟩))/\wy.cell? ⟨bb,1,none⟩=some (.int .i64 c.what)/\wy.cell? ⟨bb,2,none⟩=some (.string c.nm)/\wy.cell? ⟨bb,3,none⟩=some (.int .i64 c.p.1)/\wy.cell? ⟨bb,4,none⟩=some (.int .i64 c.p.2)/\wy.cell? ⟨bb,5,none⟩=some (.int .i64 c.len)/\wy.cell? ⟨bb,6,none⟩=some (.int .i64 c.ad)/\wy.cell? ⟨bb,7,none⟩=some (.string c.ow)/\wy.cell? ⟨bb,8,none⟩=some (.int .i64 i))
    (first|exact⟨wk4.c0,wk4.c1,wk4.c2,wk4.c3,wk4.c4,wk4.c5,wk4.c6,wk4.c7,wk4.c8⟩|exact⟨wk3.c0,wk3.c1,wk3.c2,wk3.c3,wk3.c4,wk3.c5,wk3.c6,wk3.c7,wk3.c8⟩|exact⟨k0,k1,k2,k3,k4,k5,k6,k7,k8⟩)
    (first
     | (go_at_call 96;refine (KK _).mono ?_;clear KK;rintro e w3 ⟨rfl,hw3⟩;have wk3:Wk w3 bb B c i:=(by rw[hw3];exact wk.step (ah W).drew);have b3:Below W.heap.size W w3:=(by rw[hw3];exact (ah W).drew);have KF1:=KF w3 b3;clear hw3)
     | (go_at_call 95;refine KF1.mono ?_;clear KF1;rintro e w4 ⟨rfl,hj4⟩;have wk4:Wk w4 bb B c i:=wk3.but hj4.bt hbx))
   all_goals (
    go_wp2_with fail
    go_meet)
   case rel=>
    obtain⟨F4,hh⟩:=REL.out w3 w4 b3 hj4 wk4
    exact⟨F4,rfl,rfl,rfl,hh⟩
  case rest=>
   obtain⟨F4,rfl,rfl,rfl,h4,hN4,hB4,wk4,ab4,n4⟩:=hcut
   obtain rfl:=HBB.out
   refine ‹∀(a:Act) (w:World),Code.wp _ _ _ a w->_› _ _ ?_
   exact adO V c i true h.en h4 okg smg hcl wk4 ab4 n4 hN4 hB4
 ·obtain⟨a1,a2,a3⟩:=qC (d:=d) (i:=i) (k:=kN c.nm) (K:=fun _ is=>aN c is) f0 f1
  rw[a1,a2,a3]
  rw[f2,f3,ay f1] at KF
  have hEv:Hid (ev (dgF d i (kN c.nm))=aC (dgF d i (kN c.nm))):=ay f1
  obtain⟨SS,hSS⟩:∃SS,Hid (SS=fnS d i (kN c.nm)):=⟨_,rfl⟩
  rw[<- hSS.out] at KF
  have REL:Hid _:=rel
  clear rel a1 a2 a3 f0 f1 f2 f3 hW1
  go_enter Tryz.func63,Tryz.ntmps63
  go_upto_region 1 with fail
  rw[<- hW]
  rw[<- hbb]
  have HBB:Hid (bb=w.heap.size):=hbb
  clear hW bW hbb
  go_cut [3,4,5] from 6 to 15 (fun s3 s4 s5 wy=>∃F4,s3=aC (dgF d i (kN c.nm))/\s4=.string SS/\s5=.bool false/\Ds T wy F4 B (dgD d i (kN c.nm))/\(∀j,F4 j->Nw F w wy j)/\But F w wy/\Wk wy bb B c i/\Ab wy (bb+1) (.int .i64 0) (.int .i64 0) (.int .i64 0) (.string ⟨#[]⟩) (.slice none 0 0) /\ ¬F4 (bb+1))
  case first=>
   obtain⟨k0,k1,k2,k3,k4,k5,k6,k7,k8⟩:=id wk
   go_region_held3 (fun wy=>wy.cell? ⟨bb,0,none⟩=some (.pointer (some ⟨B,0,none⟩))/\wy.cell? ⟨bb,1,none⟩=some (.int .i64 c.what)/\wy.cell? ⟨bb,2,none⟩=some (.string c.nm)/\wy.cell? ⟨bb,3,none⟩=some (.int .i64 c.p.1)/\wy.cell? ⟨bb,4,none⟩=some (.int .i64 c.p.2)/\wy.cell? ⟨bb,5,none⟩=some (.int .i64 c.len)/\wy.cell? ⟨bb,6,none⟩=some (.int .i64 c.ad)/\wy.cell? ⟨bb,7,none⟩=some (.string c.ow)/\wy.cell? ⟨bb,8,none⟩=some (.int .i64 i))
    (first|exact⟨wk4.c0,wk4.c1,wk4.c2,wk4.c3,wk4.c4,wk4.c5,wk4.c6,wk4.c7,wk4.c8⟩|exact⟨wk3.c0,wk3.c1,wk3.c2,wk3.c3,wk3.c4,wk3.c5,wk3.c6,wk3.c7,wk3.c8⟩|exact⟨k0,k1,k2,k3,k4,k5,k6,k7,k8⟩)
    (first
     | (go_at_call 96;refine (KK _).mono ?_;clear KK;rintro e w3 ⟨rfl,hw3⟩;have wk3:Wk w3 bb B c i:=(by rw[hw3];exact wk.step (ah W).drew);have b3:Below W.heap.size W w3:=(by rw[hw3];exact (ah W).drew);have KF1:=KF w3 b3;clear hw3)
     | (go_at_call 95;refine KF1.mono ?_;clear KF1;rintro e w4 ⟨rfl,hj4⟩;have wk4:Wk w4 bb B c i:=wk3.but hj4.bt hbx))
   all_goals (
    go_wp2_with fail
    go_meet)
   case rel=>
    obtain⟨F4,hh⟩:=REL.out w3 w4 b3 hj4 wk4
    exact⟨F4,rfl,rfl,rfl,hh⟩
  case rest=>
   obtain⟨F4,rfl,rfl,rfl,h4,hN4,hB4,wk4,ab4,n4⟩:=hcut
   have hbb:=HBB.out
   obtain⟨a0,a1,a2,a3,a4,af0,af1,af2,af3,af4⟩:=id ab4
   have FIN:=fun {wf:World} (hb:But (fun j=>j=bb+1) wc wf)=>qQ (F:=F) (F1:=F4) (w:=w) (wx:=wc) (ab:=bb+1) V h.en hB4 hN4 h4 (fun _ hj=>.inl hj) (But.refl _ _) (by omega) ab4.lt n4 hb
   have FH:Hid _:=@FIN
   clear FIN hbb
   go_wp2_with fail
   exact bodyPost_ret (v:=.tuple #[anV an0 (.slice none 0 0),aC (dgF d i (kN c.nm))]) (by simp[results,Tryz.results63,go_sem,an0,(ab4.all (.int .i64 0) (.int .i64 0) (.int .i64 0) (.string ⟨#[]⟩) (.slice none 0 0)).c0,(ab4.all (.int .i64 0) (.int .i64 0) (.int .i64 0) (.string ⟨#[]⟩) (.slice none 0 0)).c1,(ab4.all (.int .i64 0) (.int .i64 0) (.int .i64 0) (.string ⟨#[]⟩) (.slice none 0 0)).c2,(ab4.all (.int .i64 0) (.int .i64 0) (.int .i64 0) (.string ⟨#[]⟩) (.slice none 0 0)).c3,(ab4.all (.int .i64 0) (.int .i64 0) (.int .i64 0) (.string ⟨#[]⟩) (.slice none 0 0)).c4];rfl) rfl ⟨.slice none 0 0,by rw[hEv.out],F4,(FH.out (aQ _ (But.refl _ _) _ _ _ _ _)).1,(FH.out (aQ _ (But.refl _ _) _ _ _ _ _)).2.1,(FH.out (aQ _ (But.refl _ _) _ _ _ _ _)).2.2,World.ownsRow_nil _ _ _ _,fun j hj=>by cases hj⟩
theorem aaK (V:aG T)(c:Cl)(i:Int)(h:Ds T w F B d)(ok:OkD d)(sm:Sm d) :
  Calls Tryz.prog 32 #[.pointer (some ⟨B,0,none⟩),.int .i64 i,clV c] w fun e w'=>su T F w B (aH (doP c) d i) (aI (doP c) d i) (aF (doP c) d i) e w':=by
 obtain⟨W,hW⟩:∃W,W=(w.alloc (.cells (clA c) 33)).alloc (.cells #[.int .i64 0,.int .i64 0,.int .i64 0,.string ⟨#[]⟩,.slice none 0 0] 46):=⟨_,rfl⟩
 have bW:Below w.heap.size w W:=by rw[hW];exact aj (aj (ah w) _) _
 obtain⟨bb,hbb⟩:∃bb,bb=w.heap.size:=⟨_,rfl⟩
 have q:∀j u,(clA c)[j]? = some u->W.cell? ⟨bb,j,none⟩=some u:=fun j u hj=>by
  rw[hW,hbb]
  exact ((aj (ah (w.alloc (.cells (clA c) 33))) _).cell (p:=⟨w.heap.size,j,none⟩) (by simp)).trans (by simpa using hj)
 have q0:=q 0 _ rfl
 have q1:=q 1 _ rfl
 have q2:=q 2 _ rfl
 have q3:=q 3 _ rfl
 have q4:=q 4 _ rfl
 have q5:=q 5 _ rfl
 have q6:=q 6 _ rfl
 clear q
 have ab:Ab W (bb+1) (.int .i64 0) (.int .i64 0) (.int .i64 0) (.string ⟨#[]⟩) (.slice none 0 0):=by
  have:=Ab.new (w.alloc (.cells (clA c) 33)) (.int .i64 0) (.int .i64 0) (.int .i64 0) (.string ⟨#[]⟩) (.slice none 0 0) 46
  rw[World.size_alloc] at this
  rw[hW,hbb];exact this
 have hW1:=h.step V bW
 have KC:=aaH c W
 have hby:¬F (bb+1):=fun q=>by have:=h.lt _ q;omega
 have l1:=ab.lt
 have FIN:=fun {w1 w5 wf:World} {F5:Nat->Prop} {d':Dk} (b1:Below W.heap.size W w1) (h5:Ds T w5 F5 B d') (hn5:∀j,F5 j->Nw F w1 w5 j) (b5:But F w1 w5) (hb:But (fun j=>j=bb+1) w5 wf)=>qQ (F:=F) (F1:=F) (w:=w) (wx:=w1) (ab:=bb+1) V h.en (.below (ak bW b1)) (fun _ hj=>.inl hj) h5 hn5 b5 (by omega) (Nat.lt_of_lt_of_le l1 b1.size) hby hb
 have FH:Hid _:=@FIN
 have HS:Hid (w.heap.size<=W.heap.size/\bb+1<W.heap.size):=⟨bW.size,l1⟩
 clear FIN
 by_cases hcl:clF c=0
 ·have K1:=fun w1 (b1:Below W.heap.size W w1)=>ahl V c i (hW1.step V b1) ok sm hcl
  rw[show doP c=zK c from if_pos hcl]
  rw[hcl,aB] at KC
  obtain⟨E,hE⟩:∃E,Hid (E=ev (aF (zK c) d i)):=⟨_,rfl⟩
  generalize aI (zK c) d i=a at K1 ⊢
  generalize aH (zK c) d i=d' at K1 ⊢
  unfold su at K1 ⊢
  rw[<- hE.out] at K1 ⊢
  clear hcl hW1 hby l1 bW
  go_enter Tryz.func32,Tryz.ntmps32
  go_wp2_with (first
   | (go_at_call 62;rw[<- hW];refine KC.mono ?_;clear KC;rintro e w1 ⟨rfl,b1⟩;have K2:=K1 w1 b1;have ab1:=ab.step b1;have m0:=(b1.cell (World.block_lt_of_cell? _ _ q0)).trans q0;have m1:=(b1.cell (World.block_lt_of_cell? _ _ q1)).trans q1;have m2:=(b1.cell (World.block_lt_of_cell? _ _ q2)).trans q2;have m3:=(b1.cell (World.block_lt_of_cell? _ _ q3)).trans q3;have m4:=(b1.cell (World.block_lt_of_cell? _ _ q4)).trans q4;have m5:=(b1.cell (World.block_lt_of_cell? _ _ q5)).trans q5;have m6:=(b1.cell (World.block_lt_of_cell? _ _ q6)).trans q6;rw[hbb] at m0 m1 m2 m3 m4 m5 m6)
   | (go_at_call 63;refine K2.mono ?_;clear K2;rintro e w2 ⟨u,rfl,F5,h5,hn5,b5,row5,sep5⟩;obtain⟨pu,cu,rfl⟩:=aA row5;have ab5:=ab1.but b5 (fun q=>by have:=h.lt _ q;omega);obtain⟨a0,a1,a2,a3,a4,af0,af1,af2,af3,af4⟩:=id ab5;rw[hbb] at a0 a1 a2 a3 a4 af0 af1 af2 af3 af4))
  subst hbb
  exact bodyPost_ret (v:=.tuple #[anV a (.slice pu a.l.length cu),E]) (by simp[results,Tryz.results32,go_sem,(ab5.all (.int .i64 a.p.1) (.int .i64 a.p.2) (.int .i64 a.ad) (.string a.ow) (.slice pu a.l.length cu)).c0,(ab5.all (.int .i64 a.p.1) (.int .i64 a.p.2) (.int .i64 a.ad) (.string a.ow) (.slice pu a.l.length cu)).c1,(ab5.all (.int .i64 a.p.1) (.int .i64 a.p.2) (.int .i64 a.ad) (.string a.ow) (.slice pu a.l.length cu)).c2,(ab5.all (.int .i64 a.p.1) (.int .i64 a.p.2) (.int .i64 a.ad) (.string a.ow) (.slice pu a.l.length cu)).c3,(ab5.all (.int .i64 a.p.1) (.int .i64 a.p.2) (.int .i64 a.ad) (.string a.ow) (.slice pu a.l.length cu)).c4]) rfl ⟨.slice pu a.l.length cu,rfl,F5,(FH.out b1 h5 hn5 b5 (aQ _ (But.refl _ _) _ _ _ _ _)).1,(FH.out b1 h5 hn5 b5 (aQ _ (But.refl _ _) _ _ _ _ _)).2.1,(FH.out b1 h5 hn5 b5 (aQ _ (But.refl _ _) _ _ _ _ _)).2.2,bK (by have:=b1.size;have:=HS.out.1;omega) (dh row5 (aQ _ (But.refl _ _) _ _ _ _ _) (fun j hj q=>by have:=b1.size;have:=HS.out.2;omega)),sep5⟩
 ·have eP:doP c=err (clF c):=if_neg hcl
  rw[eP]
  have E1:Hid (ev (aF (err (clF c)) d i)=aC (clF c)):=ay hcl
  rw[ay hcl] at KC
  generalize hG:clF c=G at KC E1
  clear hG eP hcl l1 bW
  go_enter Tryz.func32,Tryz.ntmps32
  go_wp2_with (go_at_call 62;rw[<- hW];refine KC.mono ?_;clear KC;rintro e w1 ⟨rfl,b1⟩;have ab1:=ab.step b1;obtain⟨a0,a1,a2,a3,a4,af0,af1,af2,af3,af4⟩:=id ab1;rw[hbb] at a0 a1 a2 a3 a4 af0 af1 af2 af3 af4;have h1:=hW1.step V b1)
  subst hbb
  exact bodyPost_ret (v:=.tuple #[anV an0 (.slice none 0 0),aC G]) (by simp[results,Tryz.results32,go_sem,an0,(ab1.all (.int .i64 0) (.int .i64 0) (.int .i64 0) (.string ⟨#[]⟩) (.slice none 0 0)).c0,(ab1.all (.int .i64 0) (.int .i64 0) (.int .i64 0) (.string ⟨#[]⟩) (.slice none 0 0)).c1,(ab1.all (.int .i64 0) (.int .i64 0) (.int .i64 0) (.string ⟨#[]⟩) (.slice none 0 0)).c2,(ab1.all (.int .i64 0) (.int .i64 0) (.int .i64 0) (.string ⟨#[]⟩) (.slice none 0 0)).c3,(ab1.all (.int .i64 0) (.int .i64 0) (.int .i64 0) (.string ⟨#[]⟩) (.slice none 0 0)).c4];rfl) rfl ⟨.slice none 0 0,by rw[E1.out];rfl,F,(FH.out b1 h1 (fun _ hj=>.inl hj) (But.refl _ _) (aQ _ (But.refl _ _) _ _ _ _ _)).1,(FH.out b1 h1 (fun _ hj=>.inl hj) (But.refl _ _) (aQ _ (But.refl _ _) _ _ _ _ _)).2.1,(FH.out b1 h1 (fun _ hj=>.inl hj) (But.refl _ _) (aQ _ (But.refl _ _) _ _ _ _ _)).2.2,World.ownsRow_nil _ _ _ _,fun j hj=>by cases hj⟩
end
end Go.Proofs.YtmghmpclmphccaaGreatDoor.Pa
namespace Go.Proofs.YtmghmpclmphccaaGreatDoor.Pa
open Go.RowKit Vs
def Nc:Pg->Prop
 | .ret _ _=>True
 | _=>False
def Gd:Pg->Prop
 | .ret _ _=>True
 | .get _ K=>∀v f,Gd (K v f)
 | .rng lo _ K=>lo.size<=1000000 /\ ∀l f,Gd (K l f)
 | .chg c K=>okc c /\ ∀f,Nc (K f)
theorem YV {g:Pg}(h:Nc g)(d:Dk)(i:Int):aH g d i=d:=by
 cases g with
 | ret a f=>rfl
 | get k K=>exact h.elim
 | rng lo hi K=>exact h.elim
 | chg c K=>exact h.elim
theorem MC {d:Dk}(h:Spz d){o':Ox}(ho:∀s∈o'.spans,s.1.size<9223372036854775807):Spz (bM d o'):=fun q hq=>by
 obtain⟨y,hy,rfl⟩:=List.mem_map.1 hq
 split
 ·exact ho
 ·exact h y hy
theorem aeZ {d:Dk}(h:Spz d)(i:Int)(k:ByteArray):Spz (dgD d i k):=by
 unfold dgD
 cases e:opI d i with
 | none=>exact h
 | some o=>
  simp only
  split
  ·split
   ·exact h
   ·exact MC h (h o (aS e).1)
  ·exact h
theorem ael {d:Dk}(h:Spz d)(i:Int)(lo hi:ByteArray)(hl:lo.size<=1000000):Spz (drD d i lo hi):=by
 unfold drD
 cases e:opI d i with
 | none=>exact h
 | some o=>
  simp only
  split
  ·exact h
  ·refine MC h (fun s hs=>?_)
   rcases List.mem_append.1 hs with g|g
   ·exact h o (aS e).1 s g
   ·rw[List.mem_singleton.1 g];show lo.size<_;omega
theorem aeV {d:Dk}(h:Spz d)(i:Int)(c:Chg):Spz (dcD d i c):=by
 unfold dcD
 cases e:opI d i with
 | none=>exact h
 | some o=>
  simp only
  split
  ·split
   ·exact h
   ·exact MC h (h o (aS e).1)
  ·exact h
theorem y9:∀(g:Pg) (d:Dk) (i:Int),Gd g->OkD d->Spz d->OkD (aH g d i)/\wt (aH g d i)<=wt d+1/\(aH g d i).ids=d.ids/\Spz (aH g d i)
 | .ret _ _,d,_,_,ok,sz=>⟨ok,Nat.le_succ _,rfl,sz⟩
 | .get k K,d,i,h,ok,sz=>by
  obtain⟨a1,a2,a3,a4⟩:=y9 (K (dgS d i k) (dgF d i k)) (dgD d i k) i (h _ _) (ok.dg i k) (aeZ sz i k)
  rw[(TP ok i k).1] at a2
  rw[(TP ok i k).2] at a3
  exact⟨a1,a2,a3,a4⟩
 | .rng lo hi K,d,i,h,ok,sz=>by
  obtain⟨a1,a2,a3,a4⟩:=y9 (K (drS d i lo hi) (drF d i)) (drD d i lo hi) i (h.2 _ _) (ok.dr i lo hi) (ael sz i lo hi h.1)
  rw[(Ux ok i lo hi).1] at a2
  rw[(Ux ok i lo hi).2] at a3
  exact⟨a1,a2,a3,a4⟩
 | .chg c K,d,i,h,ok,sz=>by
  show OkD (aH (K (dcF d i c)) (dcD d i c) i)/\_
  have e:aH (.chg c K) d i=dcD d i c:=YV (h.2 _) _ _
  have e':aH (K (dcF d i c)) (dcD d i c) i=dcD d i c:=YV (h.2 _) _ _
  rw[e,e']
  exact⟨ok.dc i h.1,(adD ok i c).1,(adD ok i c).2.1,aeV sz i c⟩
theorem dZ (f:Int):Gd (err f):=trivial
theorem xE {k:ByteArray}{K:ByteArray->Bool->Pg}(h:∀v b,Gd (K v b)):Gd (asks k K):=fun v f=>by
 show Gd (if f=4 then K ByteArray.empty false else if f=0 then K v true else err f)
 by_cases h4:f=4
 ·rw[if_pos h4];exact h _ _
 ·rw[if_neg h4]
  by_cases h5:f=0
  ·rw[if_pos h5];exact h _ _
  ·rw[if_neg h5];exact dZ _
theorem Pm (c:UInt8)(n:ByteArray):(loK c n).size=n.size+3:=by
 unfold loK
 rw[zS]
 have:n.data.toList.length=n.size:=Array.length_toList
 simp
theorem yV {n:ByteArray}{K:List Lot->Pg}(hn:n.size<=1000)(h:∀l,Gd (K l)):Gd (allL n K):=⟨by rw[Pm];omega,fun l f=>by
 show Gd (if f=0 then K (lots l) else err f)
 by_cases h5:f=0
 ·rw[if_pos h5];exact h _
 ·rw[if_neg h5];exact dZ _⟩
theorem Vd {n:ByteArray}{K:List Int->Pg}(hn:n.size<=1000)(h:∀l,Gd (K l)):Gd (allA n K):=⟨by rw[Pm];omega,fun l f=>by
 show Gd (if f=0 then K (fG l) else err f)
 by_cases h5:f=0
 ·rw[if_pos h5];exact h _
 ·rw[if_neg h5];exact dZ _⟩
theorem yH {k v:ByteArray}{a:An}:Gd (puts k v a):=⟨fun h=>(by cases h),fun f=>by
 show Nc (if f=0 then .ret a 0 else err f)
 split <;> trivial⟩
theorem P5 {k:ByteArray}:Gd (drops k):=⟨fun _=>rfl,fun _=>trivial⟩
theorem TG {c:Cl}{K:List Lot->Pg}(hn:c.nm.size<=1000)(h:∀l,Gd (K l)):Gd (rQ c K):=yV hn (fun l=>by
 by_cases h5:c.p∈l.map Prod.fst
 ·rw[if_pos h5];exact h _
 ·rw[if_neg h5];exact dZ _)
theorem adC (c:Cl):Gd (doP c):=by
 unfold doP
 by_cases hcl:clF c=0
 ·rw[if_pos hcl,zJ]
  have hn:c.nm.size<=1000:=by have:=(sG hcl).2.2;omega
  refine xE (fun _ b=>?_)
  unfold aN
  split
  ·cases b
   ·exact yH
   ·exact dZ _
  ·split
   ·exact dZ _
   ·split
    ·refine xE (fun _ b=>?_)
     cases b
     ·exact yH
     ·exact dZ _
    ·split
     ·refine xE (fun _ b=>?_)
      cases b
      ·exact dZ _
      ·rw[if_pos rfl]
       refine yV hn (fun l=>Vd hn (fun u=>?_))
       split
       ·exact dZ _
       ·exact P5
     ·split
      ·refine yV hn (fun l=>xE (fun _ b=>?_))
       split
       ·exact dZ _
       ·cases b
        ·exact yH
        ·exact dZ _
      ·split
       ·refine xE (fun _ b=>?_)
        cases b
        ·exact dZ _
        ·exact P5
       ·split
        ·refine TG hn (fun l=>?_)
         split
         ·split
          ·exact dZ _
          ·exact yH
         ·exact dZ _
        ·split
         ·refine TG hn (fun l=>Vd hn (fun u=>?_))
          split
          ·exact yH
          ·exact dZ _
         ·split
          ·exact yV hn (fun l=>trivial)
          ·refine xE (fun v b=>?_)
           cases b
           ·rw[if_neg (by decide)]
            refine yV hn (fun l=>?_)
            cases (hav l c.ad).getLast? with
            | none=>exact dZ _
            | some o=>trivial
           ·trivial
 ·rw[if_neg hcl];exact dZ _
def onX (d:Dk)(c:Cl):Dk:=aH (doP c) (bgD d) (bgN d)
def onG (d:Dk)(c:Cl):Int:=aF (doP c) (bgD d) (bgN d)
def onF (d:Dk)(c:Cl):Int:=if bgF d=0 then (if onG d c=0 then cmF (onX d c) (bgN d) else onG d c) else bgF d
def onD (d:Dk)(c:Cl):Dk:=if bgF d=0 then (if onG d c=0 then cmD (onX d c) (bgN d) else bT (onX d c) (bgN d)) else bgD d
def onN (d:Dk)(c:Cl):Int:=if onF d c=0 then cmN (onX d c) (bgN d) else 0
def onA (d:Dk)(c:Cl):An:=if onF d c=0 then aI (doP c) (bgD d) (bgN d) else an0
theorem Xv {d:Dk}(h1:wt d<=800)(h2:d.ids<=99000):Sm (bgD d):=⟨by rw[(Kz d).1];omega,by have:=(Kz d).2.1;omega⟩
theorem afn {d:Dk}(h:Spz d):Spz (bgD d):=fun o ho=>by
 unfold bgD at ho
 split at ho
 ·rcases List.mem_append.1 ho with g|g
  ·exact h o g
  ·rw[List.mem_singleton.1 g];exact fun s hs=>by simp at hs
 ·exact h o ho
theorem BU {d:Dk}(c:Cl)(ok:OkD d)(sz:Spz d):OkD (onX d c)/\wt (onX d c)<=wt d+1/\(onX d c).ids<=d.ids+1/\Spz (onX d c):=by
 obtain⟨a1,a2,a3,a4⟩:=y9 (doP c) (bgD d) (bgN d) (adC c) ok.bg (afn sz)
 rw[(Kz d).1] at a2
 have:=(Kz d).2.1
 exact⟨a1,a2,by unfold onX;omega,a4⟩
theorem Dv {d:Dk}{i:Int}{o o':Ox}(h:opI d i=some o)(e:o'.id=o.id):(opI (bM d o') i).isSome=true:=by
 have q:=(aS h).2
 rw[Cc (o:=o) (by rw[q];exact h) e i,if_pos q.symm]
 rfl
theorem acW {d:Dk}{i:Int}(h:(opI d i).isSome=true)(k:ByteArray):(opI (dgD d i k) i).isSome=true:=by
 unfold dgD
 cases e:opI d i with
 | none=>rw[e] at h;cases h
 | some o=>
  simp only
  split
  ·split
   ·exact h
   ·exact Dv e rfl
  ·exact h
theorem abn {d:Dk}{i:Int}(h:(opI d i).isSome=true)(lo hi:ByteArray):(opI (drD d i lo hi) i).isSome=true:=by
 unfold drD
 cases e:opI d i with
 | none=>rw[e] at h;cases h
 | some o=>
  simp only
  split
  ·exact h
  ·exact Dv e rfl
theorem abN {d:Dk}{i:Int}(h:(opI d i).isSome=true)(c:Chg):(opI (dcD d i c) i).isSome=true:=by
 unfold dcD
 cases e:opI d i with
 | none=>rw[e] at h;cases h
 | some o=>
  simp only
  split
  ·split
   ·exact h
   ·exact Dv e rfl
  ·exact h
theorem zO:∀(g:Pg) (d:Dk) (i:Int),(opI d i).isSome=true->(opI (aH g d i) i).isSome=true
 | .ret _ _,_,_,h=>h
 | .get k K,d,i,h=>zO (K (dgS d i k) (dgF d i k)) (dgD d i k) i (acW h k)
 | .rng lo hi K,d,i,h=>zO (K (drS d i lo hi) (drF d i)) (drD d i lo hi) i (abn h lo hi)
 | .chg c K,d,i,h=>zO (K (dcF d i c)) (dcD d i c) i (abN h c)
theorem aaX {d:Dk}(h:bgF d=0):(opI (bgD d) (bgN d)).isSome=true:=by
 have e1:bgN d=d.ids+1:=if_pos h
 have e2:bgD d={ d with ids:=d.ids+1,op:=d.op ++ [⟨d.ids+1,d.last,0,[],[],[]⟩] }:=if_pos h
 rw[e1,e2]
 show (List.find? _ (d.op ++ [_])).isSome=true
 rw[List.find?_isSome]
 exact⟨_,List.mem_append_right _ (List.mem_singleton.2 rfl),by simp⟩
theorem ada {d:Dk}(c:Cl)(h:bgF d=0):abF (onX d c) (bgN d)=0:=if_pos (zO (doP c) (bgD d) (bgN d) (aaX h))
theorem agx {k:Nat}{d:Dk}(h:Dp k d)(c:Cl)(i:Int):Dp (k+1) (aH (doP c) d i):=by
 obtain⟨a1,a2,a3,a4⟩:=y9 (doP c) d i (adC c) h.ok h.spz
 exact⟨a1,by have:=h.wl;omega,by have:=h.ids;omega,a4⟩
def lgF (vs:List Ver)(o:Ox)(k:ByteArray):Int:=if shF k ByteArray.empty=0 then (if 100<=o.asked then 3 else if (aT vs o.sees o.own k).isSome=true then 0 else 4) else 2
def lgS (vs:List Ver)(o:Ox)(k:ByteArray):ByteArray:=if shF k ByteArray.empty=0 then (if 100<=o.asked then ByteArray.empty else (aT vs o.sees o.own k).getD ByteArray.empty) else ByteArray.empty
def lgO (o:Ox)(k:ByteArray):Ox:=if shF k ByteArray.empty=0 then (if 100<=o.asked then o else dN o k) else o
def lrF (o:Ox):Int:=if 100<=o.asked then 3 else 0
def lrS (vs:List Ver)(o:Ox)(lo hi:ByteArray):List Pr:=if 100<=o.asked then [] else fJ vs o.sees o.own lo hi
def lrO (o:Ox)(lo hi:ByteArray):Ox:=if 100<=o.asked then o else iL o lo hi
def lcF (o:Ox)(c:Chg):Int:=if shF c.k c.v=0 then (if 20<(bI o.own c).length then 3 else 0) else 2
def lcO (o:Ox)(c:Chg):Ox:=if shF c.k c.v=0 then (if 20<(bI o.own c).length then o else { o with own:=bI o.own c }) else o
def loR:Pg->List Ver->Ox->An×Int×Ox
 | .ret a f,_,o=>(a,f,o)
 | .get k K,vs,o=>loR (K (lgS vs o k) (lgF vs o k)) vs (lgO o k)
 | .rng lo hi K,vs,o=>loR (K (lrS vs o lo hi) (lrF o)) vs (lrO o lo hi)
 | .chg c K,vs,o=>loR (K (lcF o c)) vs (lcO o c)
theorem LG (o:Ox)(k:ByteArray):(lgO o k).id=o.id/\(lgO o k).sees=o.sees/\(lgO o k).own=o.own:=by
 unfold lgO;split <;> (try split) <;> exact⟨rfl,rfl,rfl⟩
theorem CZ (o:Ox)(lo hi:ByteArray):(lrO o lo hi).id=o.id/\(lrO o lo hi).sees=o.sees/\(lrO o lo hi).own=o.own:=by
 unfold lrO;split <;> exact⟨rfl,rfl,rfl⟩
theorem YX (o:Ox)(c:Chg):(lcO o c).id=o.id/\(lcO o c).sees=o.sees:=by
 unfold lcO;split <;> (try split) <;> exact⟨rfl,rfl⟩
theorem EL:∀(g:Pg) (vs:List Ver) (o:Ox),(loR g vs o).2.2.id=o.id/\(loR g vs o).2.2.sees=o.sees
 | .ret _ _,_,_=>⟨rfl,rfl⟩
 | .get k K,vs,o=>by
  have a:=EL (K (lgS vs o k) (lgF vs o k)) vs (lgO o k)
  have b:=LG o k
  exact⟨a.1.trans b.1,a.2.trans b.2.1⟩
 | .rng lo hi K,vs,o=>by
  have a:=EL (K (lrS vs o lo hi) (lrF o)) vs (lrO o lo hi)
  have b:=CZ o lo hi
  exact⟨a.1.trans b.1,a.2.trans b.2.1⟩
 | .chg c K,vs,o=>by
  have a:=EL (K (lcF o c)) vs (lcO o c)
  have b:=YX o c
  exact⟨a.1.trans b.1,a.2.trans b.2⟩
theorem set_set {d:Dk}{o o':Ox}(e:o.id=o'.id):bM (bM d o) o'=bM d o':=by
 unfold bM
 simp only [List.map_map]
 congr 1
 refine List.map_congr_left (fun x _=>?_)
 show (if (if x.id=o.id then o else x).id=o'.id then o' else if x.id=o.id then o else x)=_
 by_cases h:x.id=o.id
 ·rw[if_pos h,if_pos e,if_pos (h.trans e)]
 ·rw[if_neg h]
theorem Ny {d:Dk}(h:d.op.Pairwise (fun a b=>a.id<b.id))(o':Ox):(bM d o').op.Pairwise (fun a b=>a.id<b.id):=by
 show (d.op.map _).Pairwise _
 refine List.pairwise_map.2 (h.imp (fun {a b} hab=>?_))
 by_cases ha:a.id=o'.id
 ·rw[if_pos ha]
  by_cases hb:b.id=o'.id
  ·omega
  ·rw[if_neg hb];omega
 ·rw[if_neg ha]
  by_cases hb:b.id=o'.id
  ·rw[if_pos hb];omega
  ·rw[if_neg hb];exact hab
theorem ZC {d:Dk}{i:Int}{o o':Ox}(h:opI d i=some o)(e:o'.id=o.id):opI (bM d o') i=some o':=by
 have q:=(aS h).2
 rw[Cc (o:=o) (by rw[q];exact h) e i,if_pos q.symm]
theorem DI:∀(g:Pg) (d:Dk) (i:Int) (o:Ox),d.op.Pairwise (fun a b=>a.id<b.id)->opI d i=some o->aI g d i=(loR g d.vs o).1/\aF g d i=(loR g d.vs o).2.1/\aH g d i=bM d (loR g d.vs o).2.2
 | .ret a f,d,i,o,hp,h=>⟨rfl,rfl,(iF hp (aS h).1).symm⟩
 | .get k K,d,i,o,hp,h=>by
  have e1:dgS d i k=lgS d.vs o k:=by unfold dgS;rw[h];rfl
  have e2:dgF d i k=lgF d.vs o k:=by unfold dgF;rw[h];rfl
  have e3:dgD d i k=bM d (lgO o k):=by
   unfold dgD lgO
   rw[h]
   simp only
   split
   ·split
    ·exact (iF hp (aS h).1).symm
    ·rfl
   ·exact (iF hp (aS h).1).symm
  have q:=DI (K (lgS d.vs o k) (lgF d.vs o k)) (bM d (lgO o k)) i (lgO o k) (Ny hp _) (ZC h (LG o k).1)
  rw[set_set (by rw[(EL _ _ _).1])] at q
  show aI (K (dgS d i k) (dgF d i k)) (dgD d i k) i=_/\aF (K (dgS d i k) (dgF d i k)) (dgD d i k) i=_/\aH (K (dgS d i k) (dgF d i k)) (dgD d i k) i=_
  rw[e1,e2,e3]
  exact q
 | .rng lo hi K,d,i,o,hp,h=>by
  have e1:drS d i lo hi=lrS d.vs o lo hi:=by unfold drS;rw[h];rfl
  have e2:drF d i=lrF o:=by unfold drF;rw[h];rfl
  have e3:drD d i lo hi=bM d (lrO o lo hi):=by
   unfold drD lrO
   rw[h]
   simp only
   split
   ·exact (iF hp (aS h).1).symm
   ·rfl
  have q:=DI (K (lrS d.vs o lo hi) (lrF o)) (bM d (lrO o lo hi)) i (lrO o lo hi) (Ny hp _) (ZC h (CZ o lo hi).1)
  rw[set_set (by rw[(EL _ _ _).1])] at q
  show aI (K (drS d i lo hi) (drF d i)) (drD d i lo hi) i=_/\aF (K (drS d i lo hi) (drF d i)) (drD d i lo hi) i=_/\aH (K (drS d i lo hi) (drF d i)) (drD d i lo hi) i=_
  rw[e1,e2,e3]
  exact q
 | .chg c K,d,i,o,hp,h=>by
  have e2:dcF d i c=lcF o c:=by unfold dcF;rw[h];rfl
  have e3:dcD d i c=bM d (lcO o c):=by
   unfold dcD lcO
   rw[h]
   simp only
   split
   ·split
    ·exact (iF hp (aS h).1).symm
    ·rfl
   ·exact (iF hp (aS h).1).symm
  have q:=DI (K (lcF o c)) (bM d (lcO o c)) i (lcO o c) (Ny hp _) (ZC h (YX o c).1)
  rw[set_set (by rw[(EL _ _ _).1])] at q
  show aI (K (dcF d i c)) (dcD d i c) i=_/\aF (K (dcF d i c)) (dcD d i c) i=_/\aH (K (dcF d i c)) (dcD d i c) i=_
  rw[e2,e3]
  exact q
end Go.Proofs.YtmghmpclmphccaaGreatDoor.Pa
namespace Go.Proofs.YtmghmpclmphccaaGreatDoor.Pa
open Go.RowKit Go.Maps Vs
structure Hh (w:World)(H B M:Nat):Prop where
 c0:w.cell? ⟨H,0,none⟩=some (.pointer (some ⟨B,0,none⟩))
 c1:w.cell? ⟨H,1,none⟩=some (.map (some M))
theorem Hh.lt {w:World}{H B M:Nat}(h:Hh w H B M):H<w.heap.size:=World.block_lt_of_cell? _ _ h.c0
theorem Hh.but {E:Nat->Prop}{w w':World}{H B M:Nat}(h:Hh w H B M)(hb:But E w w')(hE:¬E H):Hh w' H B M:=⟨(hb.cell (p:=⟨H,0,none⟩) h.lt hE).trans h.c0,(hb.cell (p:=⟨H,1,none⟩) h.lt hE).trans h.c1⟩
theorem Hh.step {w w':World}{H B M:Nat}(h:Hh w H B M)(hb:Below w.heap.size w w'):Hh w' H B M:=h.but (E:=fun _=>False) (.below hb) id
section
variable {T:Td}{w:World}
theorem adT (V:aG T)(room:Int)(en:En w)(h0:0<=room)(h1:room<=100000) :
  Calls Tryz.prog 7 #[.int .i64 room] w fun e w'=>∃H B M F,e=.returned (.tuple #[.pointer (some ⟨H,0,none⟩),.nilIface])/\Ds T w' F B (dk0 room)/\Hh w' H B M/\w'.ownsMap Tryz.prog 9 aW M 0 (.map []) /\ ¬F H /\ ¬F M/\H≠M/\(∀j,F j->w.heap.size<=j)/\w.heap.size<=H/\w.heap.size<=M/\Below w.heap.size w w':=by
 have hmm:=@run_makeMap Tryz.prog
 have K:=V.Eu w h0 h1
 have glt:∀{j},Gl j->j<w.heap.size:=fun hj=>en.lt hj
 have GH:Hid _:=@glt
 clear glt
 go_enter Tryz.func7,Tryz.ntmps7
 go_wp2_with (go_at_call 25;refine K.mono ?_;clear K;rintro e w1 ⟨B,rfl,hT,hb1⟩)
 go_ret2
 have b2:=aj (aj (ah w1) (.map #[] 0)) (.cells #[.pointer (some ⟨B,0,none⟩),.map (some w1.heap.size)] 75)
 have s1:=hb1.size
 refine⟨w1.heap.size+1,B,w1.heap.size,fun j=>w.heap.size<=j/\j<w1.heap.size,rfl,⟨V.step hT b2,fun j hj=>?_,fun j hj q=>?_,(en.step hb1).step b2⟩,⟨?_,?_⟩,(World.ownsMap_made w1 _ _ _).alloc _,fun q=>by have:=q.2;omega,fun q=>by have:=q.2;omega,by omega,fun j hj=>hj.1,by omega,s1,ak hb1 b2⟩
 ·have:=b2.size
  have:=hj.2
  omega
 ·have:=GH.out q
  have:=hj.1
  omega
 ·go_simp
 ·go_simp
theorem ZO (f:Int)(b cap:Nat)(w:World)(c0:w.cell? ⟨b,0,none⟩=some (aC f))(c1:w.cell? ⟨b,1,none⟩=some .nilIface) :
  Calls Tryz.prog 35 #[.slice (some ⟨b,0,none⟩) 2 cap] w fun e w'=>e=.returned (aC f)/\w'=w:=by
 go_enter Tryz.func35,Tryz.ntmps35
 go_wp2
 go_loopw [3,8] (fun s i wr=>wr=w/\((i=.int .i64 0/\s=.nilIface) \/ (i=.int .i64 1/\s=aC f) \/ (i=.int .i64 2/\s=aC f))) (fun _ i _=>2 - (intOf i).toNat)
 case atStart=>exact⟨rfl,.inl ⟨rfl,rfl⟩⟩
 case round=>
  obtain⟨hw,hor⟩:=hrel
  have:=hw.symm
  subst this
  rcases hor with ⟨rfl,rfl⟩|⟨rfl,rfl⟩|⟨rfl,rfl⟩
  ·go_wp2
   exact⟨⟨trivial,.inr (.inl ⟨rfl,rfl⟩)⟩,by simp[intOf]⟩
  ·go_wp2
   exact⟨⟨trivial,.inr (.inr ⟨rfl,rfl⟩)⟩,by simp[intOf]⟩
  ·go_wp2
   go_ret
   exact⟨rfl,rfl⟩
end
