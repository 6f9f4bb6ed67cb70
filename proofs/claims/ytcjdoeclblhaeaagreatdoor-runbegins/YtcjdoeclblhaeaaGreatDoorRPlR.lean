/- -/
import Derived.Test.YtcjdoeclblhaeaaGreatDoorRPlN
import Derived.Test.YtcjdoeclblhaeaaGreatDoorRCvSpans
import Derived.Test.YtcjdoeclblhaeaaGreatDoorRRnA
set_option maxHeartbeats 16000000
set_option maxRecDepth 100000
namespace Bur
theorem fsg_in (n:Int):∀ (G:List Sp) (a:Int),(∀ g∈G,0<=g.1/\g.1<=g.2/\g.2<=4294967295)->fsg n G=some a->0<=a/\a<=4294967295
 | [],_,_,h=>by cases h
 | g :: r,a,hG,h=>by
  rw[fsg] at h
  split at h
  ·rename_i hp
   injection h with h
   subst h
   have hz:=sz_pos n
   have hm:(upn (sz n) g.1,n)∈pls n g:=by
    unfold pls
    rw[List.mem_map]
    exact⟨0,List.mem_range.2 hp,by simp⟩
   obtain⟨_,_,h3,h4⟩:=(pls_mem n g _).1 hm
   obtain⟨o1,o2,o3⟩:=hG g (by simp)
   simp only at h3 h4
   omega
  ·exact fsg_in n r a (fun x hx=>hG x (by simp[hx])) h
theorem fsS_in {p:Sp} {l:List Sp} {n:Int} (h:fsF p l n=0):0<=(fsS p l n).1/\(fsS p l n).1<=4294967295/\0<=(fsS p l n).2/\(fsS p l n).2<100:=by
 have hs:fsS p l n=((fsp p l n).getD 0,n):=if_pos h
 unfold fsF at h
 split at h
 ·rename_i e
  obtain⟨h0,n0,n1⟩:=gfF_ok e
  have hz0:0<=p.2:=(frF_ok h0).1.parts.1
  have hg:=(fs_fsg e).1
  rw[hs]
  cases hx:fsp p l n with
  | none=>rw[hx] at h;cases h
  | some a=>
   rw[hx] at hg
   obtain⟨a1,a2⟩:=fsg_in n _ a (fun g hgm=>by obtain⟨o1,o2,o3⟩:=gps_one h0 g hgm;exact⟨o1,o2,o3⟩) hg.symm
   show 0<=a/\a<=4294967295/\0<=n/\n<100
   omega
 ·contradiction
end Bur
namespace Vs
def nkP (c:Cl) (l:List Lot):Pg:=if Bur.fsF c.p (inn c.p l) c.len=0 then
 (if Bur.fsS c.p (inn c.p l) c.len=c.p then err 6 else puts (kP c.nm (Bur.fsS c.p (inn c.p l) c.len)) c.ow ⟨Bur.fsS c.p (inn c.p l) c.len,0,ByteArray.empty,[]⟩) else err (Bur.fsF c.p (inn c.p l) c.len)
theorem inn_len (p:Bur.Sp) (l:List Lot):(inn p l).length<=l.length:=by
 unfold inn
 exact Nat.le_trans (List.length_filter_le _ _) (by rw[List.length_map];exact Nat.le_refl _)
end Vs
namespace Go.Proofs.YtcjdoeclblhaeaaGreatDoor.Pa
open Go.RowKit Go.Maps Vs
theorem pfA_sa {w:World} {p:Option Addr} {l:List Bur.Sp} (h:PfA w p l):Sa.SpAt w p l:=pfA_sp h
theorem bxBut {E:Nat->Prop} {w w':World} {b:Nat} {u v:Int} (h:Bx w b u v) (hb:But E w w') (hE:¬ E b):Bx w' b u v:=
 ⟨(hb.cell (p:=⟨b,0,none⟩) h.lt hE).trans h.c0,(hb.cell (p:=⟨b,1,none⟩) h.lt hE).trans h.c1,(hb.frozen (p:=⟨b,0,none⟩) h.lt hE).trans h.f0,(hb.frozen (p:=⟨b,1,none⟩) h.lt hE).trans h.f1⟩
section
variable {T:Td} {w:World} {F:Nat->Prop} {B:Nat} {d:Dk}
theorem but_two (w:World) (b:Nat) (x y:Value):But (fun j=>j=b) w ((w.setCell ⟨b,0,none⟩ x).setCell ⟨b,1,none⟩ y):=by
 have h1:But (fun j=>j=b) w (w.setCell ⟨b,0,none⟩ x):=(But.refl (fun j=>j=b) w).setCell (p:=⟨b,0,none⟩) (.inl rfl) x
 exact h1.setCell (p:=⟨b,1,none⟩) (.inl rfl) y
theorem bx_put {w:World} {b:Nat} {u v:Int} (h:Bx w b u v) (x y:Int):Bx ((w.setCell ⟨b,0,none⟩ (.int .i64 x)).setCell ⟨b,1,none⟩ (.int .i64 y)) b x y:=by
 obtain⟨c0,c1,f0,f1⟩:=h
 exact⟨by go_simp,by go_simp,by go_simp,by go_simp⟩
theorem below_two {n b:Nat} {w0 w:World} (h:Below n w0 w) (hb:n<=b) (x y:Value):Below n w0 ((w.setCell ⟨b,0,none⟩ x).setCell ⟨b,1,none⟩ y):=(h.setCell (by show n<=b;exact hb) _).setCell (by show n<=b;exact hb) _
theorem plNextP (V:DFace T) (c:Cl) (i:Int) (h:Ds T w F B d) (ok:OkD d) (sm:Sm d) (hn:c.nm.size<=1000) (how:c.ow.size<=maxLen) :
  Calls Tryz.prog 169 #[wkV B c i] w fun e w'=>e=.returned (.tuple #[pfx (runA (pNextP c) d i).p.1 (runA (pNextP c) d i).p.2,ev (runF (pNextP c) d i)])/\Dj T F w w' B (runD (pNextP c) d i):=by
 obtain⟨W,hW⟩:∃ W,W=(w.alloc (.cells (wkA B c i) 188)).alloc (.cells #[.int .i64 0,.int .i64 0] 105):=⟨_,rfl⟩
 have bW:Below w.heap.size w W:=by rw[hW];exact below_al (below_al (below_self w) _) _
 have wk:Wk ((w.alloc (.cells (wkA B c i) 188)).alloc (.cells #[.int .i64 0,.int .i64 0] 105)) w.heap.size B c i:=(Wk.new w B c i 188).step (below_al (below_self _) _)
 have wkW:Wk W w.heap.size B c i:=by rw[hW];exact wk
 have bxW:Bx W (w.heap.size+1) 0 0:=by
  have:=Bx.new (w.alloc (.cells (wkA B c i) 188)) 105 0 0
  rw[World.size_alloc] at this
  rw[hW];exact this
 have hW1:=h.step V bW
 have KL:=plWith V c i hW1 ok sm hn
 obtain⟨k0,k1,k2,k3,k4,k5,k6,k7,k8⟩:=wk
 have hdl:=drS_len ok i (loK 112 c.nm) (heK 112 c.nm)
 have hwt:=sm.wt
 have hll:(lwL d i c).length<=_:=lots_len (drS d i (loK 112 c.nm) (heK 112 c.nm))
 have sW:=bW.size
 have en:=h.en
 have hbx:¬ F w.heap.size:=fun q=>by have:=h.lt _ q;omega
 have hby:¬ F (w.heap.size+1):=fun q=>by have:=h.lt _ q;omega
 have lW:=bxW.lt
 have D1:∀ w1 F1,Ds T w1 F1 B (drD d i (loK 112 c.nm) (heK 112 c.nm))->(∀ j,F1 j->Nw F W w1 j)->But F W w1->(∀ j,F1 j->Nw F w w1 j)/\But F w w1 /\ ¬ F1 w.heap.size /\ ¬ F1 (w.heap.size+1):=fun w1 F1 h1 hF1 hb1=>by
  have s1:=hb1.size
  have hF2:∀ j,F1 j->Nw F w w1 j:=fun j hj=>(hF1 j hj).elim .inl (fun g=>.inr ⟨by have:=g.1;omega,g.2⟩)
  have hbt:But F w w1:=(But.below bW:But F w W).trans hb1
  exact⟨hF2,hbt,fun q=>(hF1 _ q).elim hbx (fun g=>by have:=g.1;omega),fun q=>(hF1 _ q).elim hby (fun g=>by have:=g.1;omega)⟩
 -- the answer's box,written at last
 have FIN:∀ w1 F1 (d1 d2:Dk),Ds T w1 F1 B d1->(∀ j,F1 j->Nw F w w1 j)->But F w w1 -> ¬ F1 (w.heap.size+1)->w.heap.size+1<w1.heap.size -> ∀ w2,Dj T F1 w1 w2 B d2 -> ∀ x y,Dj T F w ((w2.setCell ⟨w.heap.size+1,0,none⟩ x).setCell ⟨w.heap.size+1,1,none⟩ y) B d2:=fun w1 F1 d1 d2 g1 hN1 hB1 hx1 l1 w2 k x y=>by
  obtain⟨F2,g2,hN2⟩:=k.ex
  have hb:But (fun j=>j=w.heap.size+1) w2 ((w2.setCell ⟨w.heap.size+1,0,none⟩ x).setCell ⟨w.heap.size+1,1,none⟩ y):=but_two w2 _ x y
  have hN:=Dj.then hB1 hN1 k
  obtain⟨a1,a2,a3⟩:=Ds.off V en g2 (fun j hj=>(hN2 j hj).elim (fun q=>(hN1 j q).elim .inl (fun g=>.inr ⟨g.1,by have:=g.2;have:=k.bt.size;omega⟩)) (fun g=>.inr ⟨by have:=g.1;omega,g.2⟩)) hN.bt hb (fun j hj=>⟨by omega,fun q=>by subst hj;exact (hN2 _ q).elim hx1 (fun g=>by have:=g.1;omega)⟩)
  exact⟨⟨F2,a1,a2⟩,a3⟩
 have FH:Hid _:=FIN
 clear FIN
 by_cases h0:lwF d i c=0
 ·obtain⟨a1,a2,a3⟩:=(allW_is (d:=d) (i:=i) (c:=c) (K:=nkP c)).1 h0
  rw[h0,ev_0] at KL
  have okr:=ok.dr i (loK 112 c.nm) (heK 112 c.nm)
  have smr:=Sm.dr sm ok i (loK 112 c.nm) (heK 112 c.nm)
  generalize drD d i (loK 112 c.nm) (heK 112 c.nm)=d1 at KL a1 a2 a3 D1 okr smr
  generalize lwL d i c=LL at KL a1 a2 a3 hll
  have A1:Hid (runF (pNextP c) d i=_):=a1
  have A2:Hid (runD (pNextP c) d i=_):=a2
  have A3:Hid (runA (pNextP c) d i=_):=a3
  have hil:=inn_len c.p LL
  have KI:=fun p cp w3 (hp:LotAt w3 p LL)=>plInner c i B LL p cp w3 (by omega) hp
  have KN:∀ p cp w3 (_:PfA w3 p (inn c.p LL)),Calls Tryz.prog 218 #[pfx c.p.1 c.p.2,.slice p (inn c.p LL).length cp,.int .i64 c.len] w3 fun e w'=>e=.returned (.tuple #[pfx (Bur.fsS c.p (inn c.p LL) c.len).1 (Bur.fsS c.p (inn c.p LL) c.len).2,ev (Bur.fsF c.p (inn c.p LL) c.len)])/\Below w3.heap.size w3 w':=fun p cp w3 hp=>Sa.freeFirst c.p.1 c.p.2 c.len p cp (inn c.p LL) w3 (by omega) (pfA_sa hp)
  have hin:=Bur.fsS_in (p:=c.p) (l:=inn c.p LL) (n:=c.len)
  have hz:¬ Bur.fsF c.p (inn c.p LL) c.len=0->Bur.fsS c.p (inn c.p LL) c.len=(0,0):=fun q=>if_neg q
  have hnk:nkP c LL=if Bur.fsF c.p (inn c.p LL) c.len=0 then (if Bur.fsS c.p (inn c.p LL) c.len=c.p then err 6 else puts (kP c.nm (Bur.fsS c.p (inn c.p LL) c.len)) c.ow ⟨Bur.fsS c.p (inn c.p LL) c.len,0,ByteArray.empty,[]⟩) else err (Bur.fsF c.p (inn c.p LL) c.len):=rfl
  generalize Bur.fsS c.p (inn c.p LL) c.len=Q at KN hin hnk hz
  generalize Bur.fsF c.p (inn c.p LL) c.len=f at KN hin hnk hz
  generalize inn c.p LL=II at KI KN hil
  have hm:=Ta.eqGuard_pfx
  clear a1 a2 a3 h0 hW1
  by_cases hf:f=0
  ·subst hf
   rw[if_pos rfl] at hnk
   obtain⟨i0,i1,i2,i3⟩:=hin rfl
   rw[ev_0] at KN
   have E:=fun w=>Ta.eqPfx Q.1 Q.2 c.p.1 c.p.2 w
   rw[sm_dec] at E
   clear hz hin
   by_cases hq:Q=c.p
   ·rw[decide_eq_true hq] at E
    rw[if_pos hq] at hnk
    have E1:Hid (runF (pNextP c) d i=6):=A1.out.trans (by rw[hnk];rfl)
    have E2:Hid (runD (pNextP c) d i=d1):=A2.out.trans (by rw[hnk];rfl)
    have E3:Hid (runA (pNextP c) d i=an0):=A3.out.trans (by rw[hnk];rfl)
    clear hq hnk A1 A2 A3
    go_enter Tryz.func169,Tryz.ntmps169
    go_upto_region 4 with (go_at_call 217;rw[<- hW];refine KL.mono ?_;clear KL;rintro e w1 ⟨x,rfl,F1,g1,hF1,hb1,hrs⟩;obtain⟨hrow,hsep⟩:=hrs rfl;obtain⟨hN1,hB1,hx1,hy1⟩:=D1 w1 F1 g1 hF1 hb1;have wk1:Wk w1 w.heap.size B c i:=wkW.but hb1 hbx;have bx1:Bx w1 (w.heap.size+1) 0 0:=bxBut bxW hb1 hby;obtain⟨p,cp,rfl,hlot⟩:=lot_own hrow;have KI1:=fun wx (bx:Below w1.heap.size w1 wx)=>KI p cp wx (hlot.step bx))
    clear k0 k1 k2 k3 k4 k5 k6 k7 k8
    go_cut [5,6] from 17 to 29 (fun s5 s6 wy=>∃ b,s5=.nilIface/\s6=.pointer (some ⟨b,0,none⟩)/\Bx wy b Q.1 Q.2/\Below w1.heap.size w1 wy/\w1.heap.size<=b)
    case first=>
     go_region_held3 (fun wy=>wy.cell? ⟨w.heap.size,0,none⟩=some (.pointer (some ⟨B,0,none⟩))/\wy.cell? ⟨w.heap.size,1,none⟩=some (.int .i64 c.what)/\wy.cell? ⟨w.heap.size,2,none⟩=some (.string c.nm)/\wy.cell? ⟨w.heap.size,3,none⟩=some (.int .i64 c.p.1)/\wy.cell? ⟨w.heap.size,4,none⟩=some (.int .i64 c.p.2)/\wy.cell? ⟨w.heap.size,5,none⟩=some (.int .i64 c.len)/\wy.cell? ⟨w.heap.size,6,none⟩=some (.int .i64 c.ad)/\wy.cell? ⟨w.heap.size,7,none⟩=some (.string c.ow)/\wy.cell? ⟨w.heap.size,8,none⟩=some (.int .i64 i))
      (first|exact⟨wk4.c0,wk4.c1,wk4.c2,wk4.c3,wk4.c4,wk4.c5,wk4.c6,wk4.c7,wk4.c8⟩|exact⟨wk3.c0,wk3.c1,wk3.c2,wk3.c3,wk3.c4,wk3.c5,wk3.c6,wk3.c7,wk3.c8⟩|exact⟨wk1.c0,wk1.c1,wk1.c2,wk1.c3,wk1.c4,wk1.c5,wk1.c6,wk1.c7,wk1.c8⟩|exact⟨(wk4.step (below_al (below_self _) _)).c0,(wk4.step (below_al (below_self _) _)).c1,(wk4.step (below_al (below_self _) _)).c2,(wk4.step (below_al (below_self _) _)).c3,(wk4.step (below_al (below_self _) _)).c4,(wk4.step (below_al (below_self _) _)).c5,(wk4.step (below_al (below_self _) _)).c6,(wk4.step (below_al (below_self _) _)).c7,(wk4.step (below_al (below_self _) _)).c8⟩|exact⟨(wk3.step (below_al (below_self _) _)).c0,(wk3.step (below_al (below_self _) _)).c1,(wk3.step (below_al (below_self _) _)).c2,(wk3.step (below_al (below_self _) _)).c3,(wk3.step (below_al (below_self _) _)).c4,(wk3.step (below_al (below_self _) _)).c5,(wk3.step (below_al (below_self _) _)).c6,(wk3.step (below_al (below_self _) _)).c7,(wk3.step (below_al (below_self _) _)).c8⟩|exact⟨(wk1.step (below_al (below_self w1).drew _)).c0,(wk1.step (below_al (below_self w1).drew _)).c1,(wk1.step (below_al (below_self w1).drew _)).c2,(wk1.step (below_al (below_self w1).drew _)).c3,(wk1.step (below_al (below_self w1).drew _)).c4,(wk1.step (below_al (below_self w1).drew _)).c5,(wk1.step (below_al (below_self w1).drew _)).c6,(wk1.step (below_al (below_self w1).drew _)).c7,(wk1.step (below_al (below_self w1).drew _)).c8⟩|exact⟨(wk4.but (but_two w4 _ _ _) (fun q=>by have:=wk1.lt;have:=b13.size;(try simp only at q);omega)).c0,(wk4.but (but_two w4 _ _ _) (fun q=>by have:=wk1.lt;have:=b13.size;(try simp only at q);omega)).c1,(wk4.but (but_two w4 _ _ _) (fun q=>by have:=wk1.lt;have:=b13.size;(try simp only at q);omega)).c2,(wk4.but (but_two w4 _ _ _) (fun q=>by have:=wk1.lt;have:=b13.size;(try simp only at q);omega)).c3,(wk4.but (but_two w4 _ _ _) (fun q=>by have:=wk1.lt;have:=b13.size;(try simp only at q);omega)).c4,(wk4.but (but_two w4 _ _ _) (fun q=>by have:=wk1.lt;have:=b13.size;(try simp only at q);omega)).c5,(wk4.but (but_two w4 _ _ _) (fun q=>by have:=wk1.lt;have:=b13.size;(try simp only at q);omega)).c6,(wk4.but (but_two w4 _ _ _) (fun q=>by have:=wk1.lt;have:=b13.size;(try simp only at q);omega)).c7,(wk4.but (but_two w4 _ _ _) (fun q=>by have:=wk1.lt;have:=b13.size;(try simp only at q);omega)).c8⟩)
      (first
       | (go_at_call 211;refine (KI1 _ ?_).mono ?_;(first|exact (below_self w1).drew|exact below_al (below_self w1).drew _);rintro e w3 ⟨u,rfl,hu,hb3⟩;have b13:Below w1.heap.size w1 w3:=(by first|exact below_via (below_self w1).drew hb3|exact below_via (below_al (below_self w1).drew _) hb3);have wk3:Wk w3 w.heap.size B c i:=wk1.step b13;(try (have qx3:Bx w3 w1.heap.size 0 0:=(Bx.new w1.drew _ 0 0).step hb3));obtain⟨pu,cu,rfl⟩:=own_form hu;have hpu:=(pfA_own hu).2;have KN1:=fun wx (bx:Below w3.heap.size w3 wx)=>KN pu cu wx (hpu.step bx))
       | (go_at_call 218;refine (KN1 _ ?_).mono ?_;(first|exact below_self w3|exact below_al (below_self w3) _);rintro e w4 ⟨rfl,hb4⟩;have b34:Below w3.heap.size w3 w4:=(by first|exact hb4|exact below_via (below_al (below_self w3) _) hb4);have b14:Below w1.heap.size w1 w4:=below_via b13 b34;have wk4:Wk w4 w.heap.size B c i:=wk3.step b34;(try (have qx4:Bx w4 w1.heap.size 0 0:=qx3.step b34;obtain⟨u0,u1,u2,u3⟩:=id qx4));(try (have qx4:Bx w4 w3.heap.size 0 0:=(Bx.new w3 _ 0 0).step hb4;obtain⟨u0,u1,u2,u3⟩:=id qx4))))
     all_goals (go_wp2_with fail;go_meet;first|exact⟨_,rfl,rfl,Bx.new w4 _ _ _,below_al b14 _,b14.size⟩|exact⟨_,rfl,rfl,bx_put qx4 _ _,below_two b14 (Nat.le_refl _) _ _,Nat.le_refl _⟩|exact⟨_,rfl,rfl,bx_put qx4 _ _,below_two b14 b13.size _ _,b13.size⟩)
    case rest=>
     obtain⟨b,rfl,rfl,qx,b15,lb⟩:=hcut
     have g5:=g1.step V b15
     have wk7:Wk wc w.heap.size B c i:=wk1.step b15
     have bx5:=bx1.step b15
     have hB5:But F w wc:=hB1.step b15
     have hN5:∀ j,F1 j->Nw F w wc j:=fun j hj=>(hN1 j hj).elim .inl (fun g=>.inr ⟨g.1,Nat.lt_of_lt_of_le g.2 b15.size⟩)
     have l5:=bx5.lt
     obtain⟨z0,z1⟩:=bx5.put 0 0
     obtain⟨b0,b1,b2,b3⟩:=bx5
     obtain⟨t0,t1,_,_⟩:=qx
     obtain⟨m0,m1,m2,m3,m4,m5,m6,m7,m8⟩:=wk7
     go_wp2_with fail
     exact bodyPost_ret (v:=.tuple #[pfx 0 0,errN 6]) (by simp[results,Tryz.results169,go_sem,z0,z1]) rfl ⟨by rw[E1.out,E3.out];rfl,by rw[E2.out];exact FH.out wc F1 d1 d1 g5 hN5 hB5 hy1 l5 wc (Dj.refl g5) _ _⟩
   ·rw[decide_eq_false hq] at E
    rw[if_neg hq] at hnk
    obtain⟨p1,p2,p3,p4⟩:=puts_is (d:=d1) (i:=i) (k:=kP c.nm Q) (v:=c.ow) ⟨Q,0,ByteArray.empty,[]⟩
    rw[<- hnk] at p1 p2 p3 p4
    have AF:=A1.out.trans p1
    have E2:Hid (runD (pNextP c) d i=dcD d1 i ⟨kP c.nm Q,c.ow,false⟩):=A2.out.trans p2
    have KP:=fun w4 F4 (h4:Ds T w4 F4 B d1)=>plPutPrefix V c i Q h4 okr smr hn how i0 i1 i2 i3
    clear hq hnk A1 A2 p1 p2
    by_cases h3:dcF d1 i ⟨kP c.nm Q,c.ow,false⟩=0
    ·have E1:Hid (runF (pNextP c) d i=0):=AF.trans h3
     have E3:Hid (runA (pNextP c) d i=⟨Q,0,ByteArray.empty,[]⟩):=A3.out.trans (p3 h3)
     rw[h3,ev_0] at KP
     clear p3 p4 AF A3 h3
     go_enter Tryz.func169,Tryz.ntmps169
     go_upto_region 4 with (go_at_call 217;rw[<- hW];refine KL.mono ?_;clear KL;rintro e w1 ⟨x,rfl,F1,g1,hF1,hb1,hrs⟩;obtain⟨hrow,hsep⟩:=hrs rfl;obtain⟨hN1,hB1,hx1,hy1⟩:=D1 w1 F1 g1 hF1 hb1;have wk1:Wk w1 w.heap.size B c i:=wkW.but hb1 hbx;have bx1:Bx w1 (w.heap.size+1) 0 0:=bxBut bxW hb1 hby;obtain⟨p,cp,rfl,hlot⟩:=lot_own hrow;have KI1:=fun wx (bx:Below w1.heap.size w1 wx)=>KI p cp wx (hlot.step bx))
     clear k0 k1 k2 k3 k4 k5 k6 k7 k8
     go_cut [5,6] from 17 to 29 (fun s5 s6 wy=>∃ b,s5=.nilIface/\s6=.pointer (some ⟨b,0,none⟩)/\Bx wy b Q.1 Q.2/\Below w1.heap.size w1 wy/\w1.heap.size<=b)
     case first=>
      go_region_held3 (fun wy=>wy.cell? ⟨w.heap.size,0,none⟩=some (.pointer (some ⟨B,0,none⟩))/\wy.cell? ⟨w.heap.size,1,none⟩=some (.int .i64 c.what)/\wy.cell? ⟨w.heap.size,2,none⟩=some (.string c.nm)/\wy.cell? ⟨w.heap.size,3,none⟩=some (.int .i64 c.p.1)/\wy.cell? ⟨w.heap.size,4,none⟩=some (.int .i64 c.p.2)/\wy.cell? ⟨w.heap.size,5,none⟩=some (.int .i64 c.len)/\wy.cell? ⟨w.heap.size,6,none⟩=some (.int .i64 c.ad)/\wy.cell? ⟨w.heap.size,7,none⟩=some (.string c.ow)/\wy.cell? ⟨w.heap.size,8,none⟩=some (.int .i64 i))
       (first|exact⟨wk4.c0,wk4.c1,wk4.c2,wk4.c3,wk4.c4,wk4.c5,wk4.c6,wk4.c7,wk4.c8⟩|exact⟨wk3.c0,wk3.c1,wk3.c2,wk3.c3,wk3.c4,wk3.c5,wk3.c6,wk3.c7,wk3.c8⟩|exact⟨wk1.c0,wk1.c1,wk1.c2,wk1.c3,wk1.c4,wk1.c5,wk1.c6,wk1.c7,wk1.c8⟩|exact⟨(wk4.step (below_al (below_self _) _)).c0,(wk4.step (below_al (below_self _) _)).c1,(wk4.step (below_al (below_self _) _)).c2,(wk4.step (below_al (below_self _) _)).c3,(wk4.step (below_al (below_self _) _)).c4,(wk4.step (below_al (below_self _) _)).c5,(wk4.step (below_al (below_self _) _)).c6,(wk4.step (below_al (below_self _) _)).c7,(wk4.step (below_al (below_self _) _)).c8⟩|exact⟨(wk3.step (below_al (below_self _) _)).c0,(wk3.step (below_al (below_self _) _)).c1,(wk3.step (below_al (below_self _) _)).c2,(wk3.step (below_al (below_self _) _)).c3,(wk3.step (below_al (below_self _) _)).c4,(wk3.step (below_al (below_self _) _)).c5,(wk3.step (below_al (below_self _) _)).c6,(wk3.step (below_al (below_self _) _)).c7,(wk3.step (below_al (below_self _) _)).c8⟩|exact⟨(wk1.step (below_al (below_self w1).drew _)).c0,(wk1.step (below_al (below_self w1).drew _)).c1,(wk1.step (below_al (below_self w1).drew _)).c2,(wk1.step (below_al (below_self w1).drew _)).c3,(wk1.step (below_al (below_self w1).drew _)).c4,(wk1.step (below_al (below_self w1).drew _)).c5,(wk1.step (below_al (below_self w1).drew _)).c6,(wk1.step (below_al (below_self w1).drew _)).c7,(wk1.step (below_al (below_self w1).drew _)).c8⟩|exact⟨(wk4.but (but_two w4 _ _ _) (fun q=>by have:=wk1.lt;have:=b13.size;(try simp only at q);omega)).c0,(wk4.but (but_two w4 _ _ _) (fun q=>by have:=wk1.lt;have:=b13.size;(try simp only at q);omega)).c1,(wk4.but (but_two w4 _ _ _) (fun q=>by have:=wk1.lt;have:=b13.size;(try simp only at q);omega)).c2,(wk4.but (but_two w4 _ _ _) (fun q=>by have:=wk1.lt;have:=b13.size;(try simp only at q);omega)).c3,(wk4.but (but_two w4 _ _ _) (fun q=>by have:=wk1.lt;have:=b13.size;(try simp only at q);omega)).c4,(wk4.but (but_two w4 _ _ _) (fun q=>by have:=wk1.lt;have:=b13.size;(try simp only at q);omega)).c5,(wk4.but (but_two w4 _ _ _) (fun q=>by have:=wk1.lt;have:=b13.size;(try simp only at q);omega)).c6,(wk4.but (but_two w4 _ _ _) (fun q=>by have:=wk1.lt;have:=b13.size;(try simp only at q);omega)).c7,(wk4.but (but_two w4 _ _ _) (fun q=>by have:=wk1.lt;have:=b13.size;(try simp only at q);omega)).c8⟩)
       (first
        | (go_at_call 211;refine (KI1 _ ?_).mono ?_;(first|exact (below_self w1).drew|exact below_al (below_self w1).drew _);rintro e w3 ⟨u,rfl,hu,hb3⟩;have b13:Below w1.heap.size w1 w3:=(by first|exact below_via (below_self w1).drew hb3|exact below_via (below_al (below_self w1).drew _) hb3);have wk3:Wk w3 w.heap.size B c i:=wk1.step b13;(try (have qx3:Bx w3 w1.heap.size 0 0:=(Bx.new w1.drew _ 0 0).step hb3));obtain⟨pu,cu,rfl⟩:=own_form hu;have hpu:=(pfA_own hu).2;have KN1:=fun wx (bx:Below w3.heap.size w3 wx)=>KN pu cu wx (hpu.step bx))
        | (go_at_call 218;refine (KN1 _ ?_).mono ?_;(first|exact below_self w3|exact below_al (below_self w3) _);rintro e w4 ⟨rfl,hb4⟩;have b34:Below w3.heap.size w3 w4:=(by first|exact hb4|exact below_via (below_al (below_self w3) _) hb4);have b14:Below w1.heap.size w1 w4:=below_via b13 b34;have wk4:Wk w4 w.heap.size B c i:=wk3.step b34;(try (have qx4:Bx w4 w1.heap.size 0 0:=qx3.step b34;obtain⟨u0,u1,u2,u3⟩:=id qx4));(try (have qx4:Bx w4 w3.heap.size 0 0:=(Bx.new w3 _ 0 0).step hb4;obtain⟨u0,u1,u2,u3⟩:=id qx4))))
      all_goals (go_wp2_with fail;go_meet;first|exact⟨_,rfl,rfl,Bx.new w4 _ _ _,below_al b14 _,b14.size⟩|exact⟨_,rfl,rfl,bx_put qx4 _ _,below_two b14 (Nat.le_refl _) _ _,Nat.le_refl _⟩|exact⟨_,rfl,rfl,bx_put qx4 _ _,below_two b14 b13.size _ _,b13.size⟩)
     case rest=>
      obtain⟨b,rfl,rfl,qx,b15,lb⟩:=hcut
      have g5:=g1.step V b15
      have wk7:Wk wc w.heap.size B c i:=wk1.step b15
      have bx5:=bx1.step b15
      have hB5:But F w wc:=hB1.step b15
      have hN5:∀ j,F1 j->Nw F w wc j:=fun j hj=>(hN1 j hj).elim .inl (fun g=>.inr ⟨g.1,Nat.lt_of_lt_of_le g.2 b15.size⟩)
      have l5:=bx5.lt
      have KP1:=KP wc F1 g5
      have nq:¬ F1 b:=fun q=>by have:=g1.lt _ q;omega
      obtain⟨t0,t1,_,_⟩:=id qx
      obtain⟨m0,m1,m2,m3,m4,m5,m6,m7,m8⟩:=wk7
      go_wp2_with (go_at_call 206;refine KP1.mono ?_;clear KP1;rintro e w6 ⟨rfl,hj6⟩;have bx6:=bxBut bx5 hj6.bt hy1;have qx6:=bxBut qx hj6.bt nq;obtain⟨z0,z1⟩:=bx6.put Q.1 Q.2;obtain⟨b0,b1,b2,b3⟩:=bx6;obtain⟨v0,v1,_,_⟩:=qx6)
      exact bodyPost_ret (v:=.tuple #[pfx Q.1 Q.2,.nilIface]) (by simp[results,Tryz.results169,go_sem,z0,z1]) rfl ⟨by rw[E1.out,E3.out,ev_0],by rw[E2.out];exact FH.out wc F1 d1 _ g5 hN5 hB5 hy1 l5 w6 hj6 _ _⟩
    ·have E1:Hid (ev (runF (pNextP c) d i)=errN (dcF d1 i ⟨kP c.nm Q,c.ow,false⟩)):=(congrArg ev AF).trans (ev_ne h3)
     have E3:Hid (runA (pNextP c) d i=an0):=A3.out.trans (p4 h3)
     rw[ev_ne h3] at KP
     clear p3 p4 AF A3 h3
     go_enter Tryz.func169,Tryz.ntmps169
     go_upto_region 4 with (go_at_call 217;rw[<- hW];refine KL.mono ?_;clear KL;rintro e w1 ⟨x,rfl,F1,g1,hF1,hb1,hrs⟩;obtain⟨hrow,hsep⟩:=hrs rfl;obtain⟨hN1,hB1,hx1,hy1⟩:=D1 w1 F1 g1 hF1 hb1;have wk1:Wk w1 w.heap.size B c i:=wkW.but hb1 hbx;have bx1:Bx w1 (w.heap.size+1) 0 0:=bxBut bxW hb1 hby;obtain⟨p,cp,rfl,hlot⟩:=lot_own hrow;have KI1:=fun wx (bx:Below w1.heap.size w1 wx)=>KI p cp wx (hlot.step bx))
     clear k0 k1 k2 k3 k4 k5 k6 k7 k8
     go_cut [5,6] from 17 to 29 (fun s5 s6 wy=>∃ b,s5=.nilIface/\s6=.pointer (some ⟨b,0,none⟩)/\Bx wy b Q.1 Q.2/\Below w1.heap.size w1 wy/\w1.heap.size<=b)
     case first=>
      go_region_held3 (fun wy=>wy.cell? ⟨w.heap.size,0,none⟩=some (.pointer (some ⟨B,0,none⟩))/\wy.cell? ⟨w.heap.size,1,none⟩=some (.int .i64 c.what)/\wy.cell? ⟨w.heap.size,2,none⟩=some (.string c.nm)/\wy.cell? ⟨w.heap.size,3,none⟩=some (.int .i64 c.p.1)/\wy.cell? ⟨w.heap.size,4,none⟩=some (.int .i64 c.p.2)/\wy.cell? ⟨w.heap.size,5,none⟩=some (.int .i64 c.len)/\wy.cell? ⟨w.heap.size,6,none⟩=some (.int .i64 c.ad)/\wy.cell? ⟨w.heap.size,7,none⟩=some (.string c.ow)/\wy.cell? ⟨w.heap.size,8,none⟩=some (.int .i64 i))
       (first|exact⟨wk4.c0,wk4.c1,wk4.c2,wk4.c3,wk4.c4,wk4.c5,wk4.c6,wk4.c7,wk4.c8⟩|exact⟨wk3.c0,wk3.c1,wk3.c2,wk3.c3,wk3.c4,wk3.c5,wk3.c6,wk3.c7,wk3.c8⟩|exact⟨wk1.c0,wk1.c1,wk1.c2,wk1.c3,wk1.c4,wk1.c5,wk1.c6,wk1.c7,wk1.c8⟩|exact⟨(wk4.step (below_al (below_self _) _)).c0,(wk4.step (below_al (below_self _) _)).c1,(wk4.step (below_al (below_self _) _)).c2,(wk4.step (below_al (below_self _) _)).c3,(wk4.step (below_al (below_self _) _)).c4,(wk4.step (below_al (below_self _) _)).c5,(wk4.step (below_al (below_self _) _)).c6,(wk4.step (below_al (below_self _) _)).c7,(wk4.step (below_al (below_self _) _)).c8⟩|exact⟨(wk3.step (below_al (below_self _) _)).c0,(wk3.step (below_al (below_self _) _)).c1,(wk3.step (below_al (below_self _) _)).c2,(wk3.step (below_al (below_self _) _)).c3,(wk3.step (below_al (below_self _) _)).c4,(wk3.step (below_al (below_self _) _)).c5,(wk3.step (below_al (below_self _) _)).c6,(wk3.step (below_al (below_self _) _)).c7,(wk3.step (below_al (below_self _) _)).c8⟩|exact⟨(wk1.step (below_al (below_self w1).drew _)).c0,(wk1.step (below_al (below_self w1).drew _)).c1,(wk1.step (below_al (below_self w1).drew _)).c2,(wk1.step (below_al (below_self w1).drew _)).c3,(wk1.step (below_al (below_self w1).drew _)).c4,(wk1.step (below_al (below_self w1).drew _)).c5,(wk1.step (below_al (below_self w1).drew _)).c6,(wk1.step (below_al (below_self w1).drew _)).c7,(wk1.step (below_al (below_self w1).drew _)).c8⟩|exact⟨(wk4.but (but_two w4 _ _ _) (fun q=>by have:=wk1.lt;have:=b13.size;(try simp only at q);omega)).c0,(wk4.but (but_two w4 _ _ _) (fun q=>by have:=wk1.lt;have:=b13.size;(try simp only at q);omega)).c1,(wk4.but (but_two w4 _ _ _) (fun q=>by have:=wk1.lt;have:=b13.size;(try simp only at q);omega)).c2,(wk4.but (but_two w4 _ _ _) (fun q=>by have:=wk1.lt;have:=b13.size;(try simp only at q);omega)).c3,(wk4.but (but_two w4 _ _ _) (fun q=>by have:=wk1.lt;have:=b13.size;(try simp only at q);omega)).c4,(wk4.but (but_two w4 _ _ _) (fun q=>by have:=wk1.lt;have:=b13.size;(try simp only at q);omega)).c5,(wk4.but (but_two w4 _ _ _) (fun q=>by have:=wk1.lt;have:=b13.size;(try simp only at q);omega)).c6,(wk4.but (but_two w4 _ _ _) (fun q=>by have:=wk1.lt;have:=b13.size;(try simp only at q);omega)).c7,(wk4.but (but_two w4 _ _ _) (fun q=>by have:=wk1.lt;have:=b13.size;(try simp only at q);omega)).c8⟩)
       (first
        | (go_at_call 211;refine (KI1 _ ?_).mono ?_;(first|exact (below_self w1).drew|exact below_al (below_self w1).drew _);rintro e w3 ⟨u,rfl,hu,hb3⟩;have b13:Below w1.heap.size w1 w3:=(by first|exact below_via (below_self w1).drew hb3|exact below_via (below_al (below_self w1).drew _) hb3);have wk3:Wk w3 w.heap.size B c i:=wk1.step b13;(try (have qx3:Bx w3 w1.heap.size 0 0:=(Bx.new w1.drew _ 0 0).step hb3));obtain⟨pu,cu,rfl⟩:=own_form hu;have hpu:=(pfA_own hu).2;have KN1:=fun wx (bx:Below w3.heap.size w3 wx)=>KN pu cu wx (hpu.step bx))
        | (go_at_call 218;refine (KN1 _ ?_).mono ?_;(first|exact below_self w3|exact below_al (below_self w3) _);rintro e w4 ⟨rfl,hb4⟩;have b34:Below w3.heap.size w3 w4:=(by first|exact hb4|exact below_via (below_al (below_self w3) _) hb4);have b14:Below w1.heap.size w1 w4:=below_via b13 b34;have wk4:Wk w4 w.heap.size B c i:=wk3.step b34;(try (have qx4:Bx w4 w1.heap.size 0 0:=qx3.step b34;obtain⟨u0,u1,u2,u3⟩:=id qx4));(try (have qx4:Bx w4 w3.heap.size 0 0:=(Bx.new w3 _ 0 0).step hb4;obtain⟨u0,u1,u2,u3⟩:=id qx4))))
      all_goals (go_wp2_with fail;go_meet;first|exact⟨_,rfl,rfl,Bx.new w4 _ _ _,below_al b14 _,b14.size⟩|exact⟨_,rfl,rfl,bx_put qx4 _ _,below_two b14 (Nat.le_refl _) _ _,Nat.le_refl _⟩|exact⟨_,rfl,rfl,bx_put qx4 _ _,below_two b14 b13.size _ _,b13.size⟩)
     case rest=>
      obtain⟨b,rfl,rfl,qx,b15,lb⟩:=hcut
      have g5:=g1.step V b15
      have wk7:Wk wc w.heap.size B c i:=wk1.step b15
      have bx5:=bx1.step b15
      have hB5:But F w wc:=hB1.step b15
      have hN5:∀ j,F1 j->Nw F w wc j:=fun j hj=>(hN1 j hj).elim .inl (fun g=>.inr ⟨g.1,Nat.lt_of_lt_of_le g.2 b15.size⟩)
      have l5:=bx5.lt
      have KP1:=KP wc F1 g5
      obtain⟨t0,t1,_,_⟩:=id qx
      obtain⟨m0,m1,m2,m3,m4,m5,m6,m7,m8⟩:=wk7
      go_wp2_with (go_at_call 206;refine KP1.mono ?_;clear KP1;rintro e w6 ⟨rfl,hj6⟩;have bx6:=bxBut bx5 hj6.bt hy1;obtain⟨z0,z1⟩:=bx6.put 0 0;obtain⟨b0,b1,b2,b3⟩:=bx6)
      exact bodyPost_ret (v:=.tuple #[pfx 0 0,errN (dcF d1 i ⟨kP c.nm Q,c.ow,false⟩)]) (by simp[results,Tryz.results169,go_sem,z0,z1]) rfl ⟨by rw[E1.out,E3.out];rfl,by rw[E2.out];exact FH.out wc F1 d1 _ g5 hN5 hB5 hy1 l5 w6 hj6 _ _⟩
  ·have hq:=hz hf
   subst hq
   rw[if_neg hf] at hnk
   rw[ev_ne hf] at KN
   have E1:Hid (ev (runF (pNextP c) d i)=errN f):=(congrArg ev (A1.out.trans (show runF (nkP c LL) d1 i=f by rw[hnk];rfl))).trans (ev_ne hf)
   have E2:Hid (runD (pNextP c) d i=d1):=A2.out.trans (by rw[hnk];rfl)
   have E3:Hid (runA (pNextP c) d i=an0):=A3.out.trans (by rw[hnk];rfl)
   clear hnk A1 A2 A3 hz hin hf
   go_enter Tryz.func169,Tryz.ntmps169
   go_upto_region 4 with (go_at_call 217;rw[<- hW];refine KL.mono ?_;clear KL;rintro e w1 ⟨x,rfl,F1,g1,hF1,hb1,hrs⟩;obtain⟨hrow,hsep⟩:=hrs rfl;obtain⟨hN1,hB1,hx1,hy1⟩:=D1 w1 F1 g1 hF1 hb1;have wk1:Wk w1 w.heap.size B c i:=wkW.but hb1 hbx;have bx1:Bx w1 (w.heap.size+1) 0 0:=bxBut bxW hb1 hby;obtain⟨p,cp,rfl,hlot⟩:=lot_own hrow;have KI1:=fun wx (bx:Below w1.heap.size w1 wx)=>KI p cp wx (hlot.step bx))
   clear k0 k1 k2 k3 k4 k5 k6 k7 k8
   go_cut [5,6] from 17 to 29 (fun s5 s6 wy=>∃ b,s5=errN f/\s6=.pointer (some ⟨b,0,none⟩)/\Bx wy b 0 0/\Below w1.heap.size w1 wy/\w1.heap.size<=b)
   case first=>
    go_region_held3 (fun wy=>wy.cell? ⟨w.heap.size,0,none⟩=some (.pointer (some ⟨B,0,none⟩))/\wy.cell? ⟨w.heap.size,1,none⟩=some (.int .i64 c.what)/\wy.cell? ⟨w.heap.size,2,none⟩=some (.string c.nm)/\wy.cell? ⟨w.heap.size,3,none⟩=some (.int .i64 c.p.1)/\wy.cell? ⟨w.heap.size,4,none⟩=some (.int .i64 c.p.2)/\wy.cell? ⟨w.heap.size,5,none⟩=some (.int .i64 c.len)/\wy.cell? ⟨w.heap.size,6,none⟩=some (.int .i64 c.ad)/\wy.cell? ⟨w.heap.size,7,none⟩=some (.string c.ow)/\wy.cell? ⟨w.heap.size,8,none⟩=some (.int .i64 i))
     (first|exact⟨wk4.c0,wk4.c1,wk4.c2,wk4.c3,wk4.c4,wk4.c5,wk4.c6,wk4.c7,wk4.c8⟩|exact⟨wk3.c0,wk3.c1,wk3.c2,wk3.c3,wk3.c4,wk3.c5,wk3.c6,wk3.c7,wk3.c8⟩|exact⟨wk1.c0,wk1.c1,wk1.c2,wk1.c3,wk1.c4,wk1.c5,wk1.c6,wk1.c7,wk1.c8⟩|exact⟨(wk4.step (below_al (below_self _) _)).c0,(wk4.step (below_al (below_self _) _)).c1,(wk4.step (below_al (below_self _) _)).c2,(wk4.step (below_al (below_self _) _)).c3,(wk4.step (below_al (below_self _) _)).c4,(wk4.step (below_al (below_self _) _)).c5,(wk4.step (below_al (below_self _) _)).c6,(wk4.step (below_al (below_self _) _)).c7,(wk4.step (below_al (below_self _) _)).c8⟩|exact⟨(wk3.step (below_al (below_self _) _)).c0,(wk3.step (below_al (below_self _) _)).c1,(wk3.step (below_al (below_self _) _)).c2,(wk3.step (below_al (below_self _) _)).c3,(wk3.step (below_al (below_self _) _)).c4,(wk3.step (below_al (below_self _) _)).c5,(wk3.step (below_al (below_self _) _)).c6,(wk3.step (below_al (below_self _) _)).c7,(wk3.step (below_al (below_self _) _)).c8⟩|exact⟨(wk1.step (below_al (below_self w1).drew _)).c0,(wk1.step (below_al (below_self w1).drew _)).c1,(wk1.step (below_al (below_self w1).drew _)).c2,(wk1.step (below_al (below_self w1).drew _)).c3,(wk1.step (below_al (below_self w1).drew _)).c4,(wk1.step (below_al (below_self w1).drew _)).c5,(wk1.step (below_al (below_self w1).drew _)).c6,(wk1.step (below_al (below_self w1).drew _)).c7,(wk1.step (below_al (below_self w1).drew _)).c8⟩|exact⟨(wk4.but (but_two w4 _ _ _) (fun q=>by have:=wk1.lt;have:=b13.size;(try simp only at q);omega)).c0,(wk4.but (but_two w4 _ _ _) (fun q=>by have:=wk1.lt;have:=b13.size;(try simp only at q);omega)).c1,(wk4.but (but_two w4 _ _ _) (fun q=>by have:=wk1.lt;have:=b13.size;(try simp only at q);omega)).c2,(wk4.but (but_two w4 _ _ _) (fun q=>by have:=wk1.lt;have:=b13.size;(try simp only at q);omega)).c3,(wk4.but (but_two w4 _ _ _) (fun q=>by have:=wk1.lt;have:=b13.size;(try simp only at q);omega)).c4,(wk4.but (but_two w4 _ _ _) (fun q=>by have:=wk1.lt;have:=b13.size;(try simp only at q);omega)).c5,(wk4.but (but_two w4 _ _ _) (fun q=>by have:=wk1.lt;have:=b13.size;(try simp only at q);omega)).c6,(wk4.but (but_two w4 _ _ _) (fun q=>by have:=wk1.lt;have:=b13.size;(try simp only at q);omega)).c7,(wk4.but (but_two w4 _ _ _) (fun q=>by have:=wk1.lt;have:=b13.size;(try simp only at q);omega)).c8⟩)
     (first
      | (go_at_call 211;refine (KI1 _ ?_).mono ?_;(first|exact (below_self w1).drew|exact below_al (below_self w1).drew _);rintro e w3 ⟨u,rfl,hu,hb3⟩;have b13:Below w1.heap.size w1 w3:=(by first|exact below_via (below_self w1).drew hb3|exact below_via (below_al (below_self w1).drew _) hb3);have wk3:Wk w3 w.heap.size B c i:=wk1.step b13;(try (have qx3:Bx w3 w1.heap.size 0 0:=(Bx.new w1.drew _ 0 0).step hb3));obtain⟨pu,cu,rfl⟩:=own_form hu;have hpu:=(pfA_own hu).2;have KN1:=fun wx (bx:Below w3.heap.size w3 wx)=>KN pu cu wx (hpu.step bx))
      | (go_at_call 218;refine (KN1 _ ?_).mono ?_;(first|exact below_self w3|exact below_al (below_self w3) _);rintro e w4 ⟨rfl,hb4⟩;have b34:Below w3.heap.size w3 w4:=(by first|exact hb4|exact below_via (below_al (below_self w3) _) hb4);have b14:Below w1.heap.size w1 w4:=below_via b13 b34;have wk4:Wk w4 w.heap.size B c i:=wk3.step b34;(try (have qx4:Bx w4 w1.heap.size 0 0:=qx3.step b34;obtain⟨u0,u1,u2,u3⟩:=id qx4));(try (have qx4:Bx w4 w3.heap.size 0 0:=(Bx.new w3 _ 0 0).step hb4;obtain⟨u0,u1,u2,u3⟩:=id qx4))))
    all_goals (go_wp2_with fail;go_meet;first|exact⟨_,rfl,rfl,Bx.new w4 _ _ _,below_al b14 _,b14.size⟩|exact⟨_,rfl,rfl,bx_put qx4 _ _,below_two b14 (Nat.le_refl _) _ _,Nat.le_refl _⟩|exact⟨_,rfl,rfl,bx_put qx4 _ _,below_two b14 b13.size _ _,b13.size⟩)
   case rest=>
    obtain⟨b,rfl,rfl,qx,b15,lb⟩:=hcut
    have g5:=g1.step V b15
    have wk7:Wk wc w.heap.size B c i:=wk1.step b15
    have bx5:=bx1.step b15
    have hB5:But F w wc:=hB1.step b15
    have hN5:∀ j,F1 j->Nw F w wc j:=fun j hj=>(hN1 j hj).elim .inl (fun g=>.inr ⟨g.1,Nat.lt_of_lt_of_le g.2 b15.size⟩)
    have l5:=bx5.lt
    obtain⟨z0,z1⟩:=bx5.put 0 0
    obtain⟨b0,b1,b2,b3⟩:=bx5
    go_wp2_with fail
    exact bodyPost_ret (v:=.tuple #[pfx 0 0,errN f]) (by simp[results,Tryz.results169,go_sem,z0,z1]) rfl ⟨by rw[E1.out,E3.out];rfl,by rw[E2.out];exact FH.out wc F1 d1 d1 g5 hN5 hB5 hy1 l5 wc (Dj.refl g5) _ _⟩
 ·obtain⟨a1,a2,a3⟩:=(allW_is (d:=d) (i:=i) (c:=c) (K:=nkP c)).2 h0
  have E1:Hid (ev (runF (pNextP c) d i)=errN (lwF d i c)):=(congrArg ev a1).trans (ev_ne h0)
  have E2:Hid (runD (pNextP c) d i=drD d i (loK 112 c.nm) (heK 112 c.nm)):=a2
  have E3:Hid (runA (pNextP c) d i=an0):=a3
  rw[ev_ne h0] at KL
  clear a1 a2 a3 h0 hW1
  go_enter Tryz.func169,Tryz.ntmps169
  go_wp2_with (go_at_call 217;rw[<- hW];refine KL.mono ?_;clear KL;rintro e w1 ⟨x,rfl,F1,g1,hF1,hb1,_⟩;obtain⟨hN1,hB1,hx1,hy1⟩:=D1 w1 F1 g1 hF1 hb1;have bx1:Bx w1 (w.heap.size+1) 0 0:=bxBut bxW hb1 hby;have l1:=bx1.lt;obtain⟨z0,z1⟩:=bx1.put 0 0;obtain⟨b0,b1,b2,b3⟩:=bx1)
  exact bodyPost_ret (v:=.tuple #[pfx 0 0,errN (lwF d i c)]) (by simp[results,Tryz.results169,go_sem,z0,z1]) rfl ⟨by rw[E1.out,E3.out];rfl,by rw[E2.out];exact FH.out w1 F1 _ _ g1 hN1 hB1 hy1 l1 w1 (Dj.refl g1) _ _⟩
end
end Go.Proofs.YtcjdoeclblhaeaaGreatDoor.Pa
namespace Vs
theorem clF_in {c:Cl} (h:clF c=0):1<=c.what/\c.what<=9/\c.nm.size<=8:=by
 unfold clF at h
 by_cases h1:c.what<1 \/ 9<c.what
 ·rw[if_pos h1] at h;exact absurd h (by decide)
 ·rw[if_neg h1] at h
  by_cases h2:Bur.isN c.nm.data.toList=false
  ·rw[if_pos h2] at h;exact absurd h (by decide)
  ·have:=(Bur.isN_ok (by simpa using h2)).2.1
   have e:c.nm.data.toList.length=c.nm.size:=Array.length_toList
   omega
theorem clF_ow {c:Cl} (h:clF c=0) (hw:c.what=1 \/ c.what=2 \/ c.what=4 \/ c.what=6 \/ c.what=7):c.ow.size<=8:=by
 unfold clF at h
 by_cases h1:c.what<1 \/ 9<c.what
 ·rw[if_pos h1] at h;exact absurd h (by decide)
 ·rw[if_neg h1] at h
  by_cases h2:Bur.isN c.nm.data.toList=false
  ·rw[if_pos h2] at h;exact absurd h (by decide)
  ·rw[if_neg h2] at h
   by_cases h3:Bur.isN c.ow.data.toList=false
   ·rw[if_pos ⟨hw,h3⟩] at h;exact absurd h (by decide)
   ·have:=(Bur.isN_ok (by simpa using h3)).2.1
    have e:c.ow.data.toList.length=c.ow.size:=Array.length_toList
    omega
theorem clF_p {c:Cl} (h:clF c=0) (hw:c.what=2 \/ c.what=3 \/ c.what=6 \/ c.what=7):Bur.fault c.p.1 c.p.2=0:=by
 unfold clF at h
 by_cases h1:c.what<1 \/ 9<c.what
 ·rw[if_pos h1] at h;exact absurd h (by decide)
 ·rw[if_neg h1] at h
  by_cases h2:Bur.isN c.nm.data.toList=false
  ·rw[if_pos h2] at h;exact absurd h (by decide)
  ·rw[if_neg h2] at h
   by_cases h3:(c.what=1 \/ c.what=2 \/ c.what=4 \/ c.what=6 \/ c.what=7)/\Bur.isN c.ow.data.toList=false
   ·rw[if_pos h3] at h;exact absurd h (by decide)
   ·rw[if_neg h3,if_pos hw] at h;exact h
theorem clF_a {c:Cl} (h:clF c=0) (hw:c.what=4 \/ c.what=5 \/ c.what=9):Bur.fault c.ad 32=0:=by
 unfold clF at h
 by_cases h1:c.what<1 \/ 9<c.what
 ·rw[if_pos h1] at h;exact absurd h (by decide)
 ·rw[if_neg h1] at h
  by_cases h2:Bur.isN c.nm.data.toList=false
  ·rw[if_pos h2] at h;exact absurd h (by decide)
  ·rw[if_neg h2] at h
   by_cases h3:(c.what=1 \/ c.what=2 \/ c.what=4 \/ c.what=6 \/ c.what=7)/\Bur.isN c.ow.data.toList=false
   ·rw[if_pos h3] at h;exact absurd h (by decide)
   ·rw[if_neg h3,if_neg (by omega),if_pos hw] at h;exact h
end Vs
namespace Go.Proofs.YtcjdoeclblhaeaaGreatDoor.Pa
open Go.RowKit Go.Maps Vs
theorem plCheck (c:Cl) (w:World):Calls Tryz.prog 116 #[clV c] w fun e w'=>e=.returned (ev (clF c))/\Below w.heap.size w w':=by
 obtain⟨what,nm,⟨p1,p2⟩,len,ad,ow⟩:=c
 have b0:=below_al (below_self w) (.cells (clA ⟨what,nm,(p1,p2),len,ad,ow⟩) 107)
 have KN:=fun W=>plName nm W
 have KO:=fun W=>plName ow W
 have KC:=fun W=>check_any p1 p2 W
 have KA:=fun W=>check_any ad 32 W
 have KS:=fun W=>plSingle ad W
 by_cases h1:what<1
 ·rw[show clF ⟨what,nm,(p1,p2),len,ad,ow⟩=1 from if_pos (.inl h1),ev_ne (by decide)]
  go_enter Tryz.func116,Tryz.ntmps116
  go_wp2
  go_ret
  exact⟨rfl,b0⟩
 ·by_cases h9:9<what
  ·rw[show clF ⟨what,nm,(p1,p2),len,ad,ow⟩=1 from if_pos (.inr h9),ev_ne (by decide)]
   go_enter Tryz.func116,Tryz.ntmps116
   go_wp2
   go_ret
   exact⟨rfl,b0⟩
  ·cases hn:Bur.isN nm.data.toList with
   | false=>
    rw[show clF ⟨what,nm,(p1,p2),len,ad,ow⟩=5 from by unfold clF;rw[if_neg (by simp only;omega),if_pos hn],ev_ne (by decide)]
    rw[show Bur.nmF nm.data.toList=5 from if_neg (by rw[hn];decide),ev_ne (by decide)] at KN
    go_enter Tryz.func116,Tryz.ntmps116
    go_wp2_with (go_at_call 71;refine (KN _).mono ?_;rintro e w1 ⟨rfl,hb1⟩)
    go_ret
    exact⟨rfl,below_via b0 hb1⟩
   | true=>
    rw[show Bur.nmF nm.data.toList=0 from if_pos hn,ev_0] at KN
    have hcl:clF ⟨what,nm,(p1,p2),len,ad,ow⟩=if (what=1 \/ what=2 \/ what=4 \/ what=6 \/ what=7)/\Bur.isN ow.data.toList=false then 5
      else if what=2 \/ what=3 \/ what=6 \/ what=7 then Bur.fault p1 p2 else if what=4 \/ what=5 \/ what=9 then Bur.fault ad 32 else 0:=by
     unfold clF
     rw[if_neg (by simp only;omega),if_neg (by simp only [hn];decide)]
    rw[hcl]
    clear hcl hn
    have hw:what=1 \/ what=2 \/ what=3 \/ what=4 \/ what=5 \/ what=6 \/ what=7 \/ what=8 \/ what=9:=by omega
    clear h1 h9
    have q0:∀ i u,(clA ⟨what,nm,(p1,p2),len,ad,ow⟩)[i]? = some u->(w.alloc (.cells (clA ⟨what,nm,(p1,p2),len,ad,ow⟩) 107)).cell? ⟨w.heap.size,i,none⟩=some u:=fun i u h=>by simpa using h
    have l0:w.heap.size<(w.alloc (.cells (clA ⟨what,nm,(p1,p2),len,ad,ow⟩) 107)).heap.size:=by simp
    rcases hw with rfl|rfl|rfl|rfl|rfl|rfl|rfl|rfl|rfl
    ·cases ho:Bur.isN ow.data.toList with
     | false=>
      rw[if_pos (by simp),ev_ne (by decide)]
      rw[show Bur.nmF ow.data.toList=5 from if_neg (by rw[ho];decide),ev_ne (by decide)] at KO
      clear ho
      go_enter Tryz.func116,Tryz.ntmps116
      go_wp2_with (first
       | (go_at_call 71;refine (KN _).mono ?_;clear KN;rintro e w1 ⟨rfl,hb1⟩;have bb1:=below_via b0 hb1;have d0:=(hb1.cell (p:=⟨w.heap.size,0,none⟩) l0).trans (q0 0 _ rfl);have d2:=(hb1.cell (p:=⟨w.heap.size,2,none⟩) l0).trans (q0 2 _ rfl);have d3:=(hb1.cell (p:=⟨w.heap.size,3,none⟩) l0).trans (q0 3 _ rfl);have d5:=(hb1.cell (p:=⟨w.heap.size,5,none⟩) l0).trans (q0 5 _ rfl);have d6:=(hb1.cell (p:=⟨w.heap.size,6,none⟩) l0).trans (q0 6 _ rfl);have l1:=World.block_lt_of_cell? _ _ d0)
       | (go_at_call 71;refine (KO _).mono ?_;clear KO;rintro e w2 ⟨rfl,hb2⟩;have bb2:=below_via bb1 hb2;have g0:=(hb2.cell (p:=⟨w.heap.size,0,none⟩) l1).trans d0;have g2:=(hb2.cell (p:=⟨w.heap.size,2,none⟩) l1).trans d2;have g3:=(hb2.cell (p:=⟨w.heap.size,3,none⟩) l1).trans d3;have g5:=(hb2.cell (p:=⟨w.heap.size,5,none⟩) l1).trans d5))
      go_ret
      exact⟨rfl,bb2⟩
     | true=>
      rw[show Bur.nmF ow.data.toList=0 from if_pos ho,ev_0] at KO
      rw[show (if ((1:Int)=1 \/ (1:Int)=2 \/ (1:Int)=4 \/ (1:Int)=6 \/ (1:Int)=7)/\true=false then (5:Int) else if (1:Int)=2 \/ (1:Int)=3 \/ (1:Int)=6 \/ (1:Int)=7 then Bur.fault p1 p2 else if (1:Int)=4 \/ (1:Int)=5 \/ (1:Int)=9 then Bur.fault ad 32 else 0)=0 from by simp,ev_0]
      clear ho
      go_enter Tryz.func116,Tryz.ntmps116
      go_wp2_with (first
       | (go_at_call 71;refine (KN _).mono ?_;clear KN;rintro e w1 ⟨rfl,hb1⟩;have bb1:=below_via b0 hb1;have d0:=(hb1.cell (p:=⟨w.heap.size,0,none⟩) l0).trans (q0 0 _ rfl);have d2:=(hb1.cell (p:=⟨w.heap.size,2,none⟩) l0).trans (q0 2 _ rfl);have d3:=(hb1.cell (p:=⟨w.heap.size,3,none⟩) l0).trans (q0 3 _ rfl);have d5:=(hb1.cell (p:=⟨w.heap.size,5,none⟩) l0).trans (q0 5 _ rfl);have d6:=(hb1.cell (p:=⟨w.heap.size,6,none⟩) l0).trans (q0 6 _ rfl);have l1:=World.block_lt_of_cell? _ _ d0)
       | (go_at_call 71;refine (KO _).mono ?_;clear KO;rintro e w2 ⟨rfl,hb2⟩;have bb2:=below_via bb1 hb2;have g0:=(hb2.cell (p:=⟨w.heap.size,0,none⟩) l1).trans d0;have g2:=(hb2.cell (p:=⟨w.heap.size,2,none⟩) l1).trans d2;have g3:=(hb2.cell (p:=⟨w.heap.size,3,none⟩) l1).trans d3;have g5:=(hb2.cell (p:=⟨w.heap.size,5,none⟩) l1).trans d5))
      go_ret
      exact⟨rfl,bb2⟩
    ·cases ho:Bur.isN ow.data.toList with
     | false=>
      rw[if_pos (by simp),ev_ne (by decide)]
      rw[show Bur.nmF ow.data.toList=5 from if_neg (by rw[ho];decide),ev_ne (by decide)] at KO
      clear ho
      go_enter Tryz.func116,Tryz.ntmps116
      go_wp2_with (first
       | (go_at_call 71;refine (KN _).mono ?_;clear KN;rintro e w1 ⟨rfl,hb1⟩;have bb1:=below_via b0 hb1;have d0:=(hb1.cell (p:=⟨w.heap.size,0,none⟩) l0).trans (q0 0 _ rfl);have d2:=(hb1.cell (p:=⟨w.heap.size,2,none⟩) l0).trans (q0 2 _ rfl);have d3:=(hb1.cell (p:=⟨w.heap.size,3,none⟩) l0).trans (q0 3 _ rfl);have d5:=(hb1.cell (p:=⟨w.heap.size,5,none⟩) l0).trans (q0 5 _ rfl);have d6:=(hb1.cell (p:=⟨w.heap.size,6,none⟩) l0).trans (q0 6 _ rfl);have l1:=World.block_lt_of_cell? _ _ d0)
       | (go_at_call 71;refine (KO _).mono ?_;clear KO;rintro e w2 ⟨rfl,hb2⟩;have bb2:=below_via bb1 hb2;have g0:=(hb2.cell (p:=⟨w.heap.size,0,none⟩) l1).trans d0;have g2:=(hb2.cell (p:=⟨w.heap.size,2,none⟩) l1).trans d2;have g3:=(hb2.cell (p:=⟨w.heap.size,3,none⟩) l1).trans d3;have g5:=(hb2.cell (p:=⟨w.heap.size,5,none⟩) l1).trans d5))
      go_ret
      exact⟨rfl,bb2⟩
     | true=>
      rw[show Bur.nmF ow.data.toList=0 from if_pos ho,ev_0] at KO
      rw[show (if ((2:Int)=1 \/ (2:Int)=2 \/ (2:Int)=4 \/ (2:Int)=6 \/ (2:Int)=7)/\true=false then (5:Int) else if (2:Int)=2 \/ (2:Int)=3 \/ (2:Int)=6 \/ (2:Int)=7 then Bur.fault p1 p2 else if (2:Int)=4 \/ (2:Int)=5 \/ (2:Int)=9 then Bur.fault ad 32 else 0)=Bur.fault p1 p2 from by simp]
      clear ho
      generalize ev (Bur.fault p1 p2)=E at KC ⊢
      go_enter Tryz.func116,Tryz.ntmps116
      go_wp2_with (first
       | (go_at_call 71;refine (KN _).mono ?_;clear KN;rintro e w1 ⟨rfl,hb1⟩;have bb1:=below_via b0 hb1;have d0:=(hb1.cell (p:=⟨w.heap.size,0,none⟩) l0).trans (q0 0 _ rfl);have d2:=(hb1.cell (p:=⟨w.heap.size,2,none⟩) l0).trans (q0 2 _ rfl);have d3:=(hb1.cell (p:=⟨w.heap.size,3,none⟩) l0).trans (q0 3 _ rfl);have d5:=(hb1.cell (p:=⟨w.heap.size,5,none⟩) l0).trans (q0 5 _ rfl);have d6:=(hb1.cell (p:=⟨w.heap.size,6,none⟩) l0).trans (q0 6 _ rfl);have l1:=World.block_lt_of_cell? _ _ d0)
       | (go_at_call 71;refine (KO _).mono ?_;clear KO;rintro e w2 ⟨rfl,hb2⟩;have bb2:=below_via bb1 hb2;have g0:=(hb2.cell (p:=⟨w.heap.size,0,none⟩) l1).trans d0;have g2:=(hb2.cell (p:=⟨w.heap.size,2,none⟩) l1).trans d2;have g3:=(hb2.cell (p:=⟨w.heap.size,3,none⟩) l1).trans d3;have g5:=(hb2.cell (p:=⟨w.heap.size,5,none⟩) l1).trans d5)
       | (go_at_call 84;refine (KC _).mono ?_;rintro e w3 ⟨rfl,hb3⟩;have bb3:=below_via bb2 hb3))
      go_ret
      exact⟨rfl,bb3⟩
    ·rw[show (if ((3:Int)=1 \/ (3:Int)=2 \/ (3:Int)=4 \/ (3:Int)=6 \/ (3:Int)=7)/\Bur.isN ow.data.toList=false then (5:Int) else if (3:Int)=2 \/ (3:Int)=3 \/ (3:Int)=6 \/ (3:Int)=7 then Bur.fault p1 p2 else if (3:Int)=4 \/ (3:Int)=5 \/ (3:Int)=9 then Bur.fault ad 32 else 0)=Bur.fault p1 p2 from by simp]
     generalize ev (Bur.fault p1 p2)=E at KC ⊢
     go_enter Tryz.func116,Tryz.ntmps116
     go_wp2_with (first
      | (go_at_call 71;refine (KN _).mono ?_;clear KN;rintro e w1 ⟨rfl,hb1⟩;have bb1:=below_via b0 hb1;have d0:=(hb1.cell (p:=⟨w.heap.size,0,none⟩) l0).trans (q0 0 _ rfl);have d2:=(hb1.cell (p:=⟨w.heap.size,2,none⟩) l0).trans (q0 2 _ rfl);have d3:=(hb1.cell (p:=⟨w.heap.size,3,none⟩) l0).trans (q0 3 _ rfl);have d5:=(hb1.cell (p:=⟨w.heap.size,5,none⟩) l0).trans (q0 5 _ rfl);have d6:=(hb1.cell (p:=⟨w.heap.size,6,none⟩) l0).trans (q0 6 _ rfl);have l1:=World.block_lt_of_cell? _ _ d0)
      | (go_at_call 84;refine (KC _).mono ?_;rintro e w3 ⟨rfl,hb3⟩;have bb3:=below_via bb1 hb3))
     go_ret
     exact⟨rfl,bb3⟩
    ·cases ho:Bur.isN ow.data.toList with
     | false=>
      rw[if_pos (by simp),ev_ne (by decide)]
      rw[show Bur.nmF ow.data.toList=5 from if_neg (by rw[ho];decide),ev_ne (by decide)] at KO
      clear ho
      go_enter Tryz.func116,Tryz.ntmps116
      go_wp2_with (first
       | (go_at_call 71;refine (KN _).mono ?_;clear KN;rintro e w1 ⟨rfl,hb1⟩;have bb1:=below_via b0 hb1;have d0:=(hb1.cell (p:=⟨w.heap.size,0,none⟩) l0).trans (q0 0 _ rfl);have d2:=(hb1.cell (p:=⟨w.heap.size,2,none⟩) l0).trans (q0 2 _ rfl);have d3:=(hb1.cell (p:=⟨w.heap.size,3,none⟩) l0).trans (q0 3 _ rfl);have d5:=(hb1.cell (p:=⟨w.heap.size,5,none⟩) l0).trans (q0 5 _ rfl);have d6:=(hb1.cell (p:=⟨w.heap.size,6,none⟩) l0).trans (q0 6 _ rfl);have l1:=World.block_lt_of_cell? _ _ d0)
       | (go_at_call 71;refine (KO _).mono ?_;clear KO;rintro e w2 ⟨rfl,hb2⟩;have bb2:=below_via bb1 hb2;have g0:=(hb2.cell (p:=⟨w.heap.size,0,none⟩) l1).trans d0;have g2:=(hb2.cell (p:=⟨w.heap.size,2,none⟩) l1).trans d2;have g3:=(hb2.cell (p:=⟨w.heap.size,3,none⟩) l1).trans d3;have g5:=(hb2.cell (p:=⟨w.heap.size,5,none⟩) l1).trans d5))
      go_ret
      exact⟨rfl,bb2⟩
     | true=>
      rw[show Bur.nmF ow.data.toList=0 from if_pos ho,ev_0] at KO
      rw[show (if ((4:Int)=1 \/ (4:Int)=2 \/ (4:Int)=4 \/ (4:Int)=6 \/ (4:Int)=7)/\true=false then (5:Int) else if (4:Int)=2 \/ (4:Int)=3 \/ (4:Int)=6 \/ (4:Int)=7 then Bur.fault p1 p2 else if (4:Int)=4 \/ (4:Int)=5 \/ (4:Int)=9 then Bur.fault ad 32 else 0)=Bur.fault ad 32 from by simp]
      clear ho
      generalize ev (Bur.fault ad 32)=E at KA ⊢
      go_enter Tryz.func116,Tryz.ntmps116
      go_wp2_with (first
       | (go_at_call 71;refine (KN _).mono ?_;clear KN;rintro e w1 ⟨rfl,hb1⟩;have bb1:=below_via b0 hb1;have d0:=(hb1.cell (p:=⟨w.heap.size,0,none⟩) l0).trans (q0 0 _ rfl);have d2:=(hb1.cell (p:=⟨w.heap.size,2,none⟩) l0).trans (q0 2 _ rfl);have d3:=(hb1.cell (p:=⟨w.heap.size,3,none⟩) l0).trans (q0 3 _ rfl);have d5:=(hb1.cell (p:=⟨w.heap.size,5,none⟩) l0).trans (q0 5 _ rfl);have d6:=(hb1.cell (p:=⟨w.heap.size,6,none⟩) l0).trans (q0 6 _ rfl);have l1:=World.block_lt_of_cell? _ _ d0)
       | (go_at_call 71;refine (KO _).mono ?_;clear KO;rintro e w2 ⟨rfl,hb2⟩;have bb2:=below_via bb1 hb2;have g0:=(hb2.cell (p:=⟨w.heap.size,0,none⟩) l1).trans d0;have g2:=(hb2.cell (p:=⟨w.heap.size,2,none⟩) l1).trans d2;have g3:=(hb2.cell (p:=⟨w.heap.size,3,none⟩) l1).trans d3;have g5:=(hb2.cell (p:=⟨w.heap.size,5,none⟩) l1).trans d5)
       | (go_at_call 162;refine (KS _).mono ?_;rintro e w4 ⟨rfl,hb4⟩;have bb4:=below_via bb2 hb4)
       | (go_at_call 84;refine (KA _).mono ?_;rintro e w3 ⟨rfl,hb3⟩;have bb3:=below_via bb4 hb3))
      go_ret
      exact⟨rfl,bb3⟩
    ·rw[show (if ((5:Int)=1 \/ (5:Int)=2 \/ (5:Int)=4 \/ (5:Int)=6 \/ (5:Int)=7)/\Bur.isN ow.data.toList=false then (5:Int) else if (5:Int)=2 \/ (5:Int)=3 \/ (5:Int)=6 \/ (5:Int)=7 then Bur.fault p1 p2 else if (5:Int)=4 \/ (5:Int)=5 \/ (5:Int)=9 then Bur.fault ad 32 else 0)=Bur.fault ad 32 from by simp]
     generalize ev (Bur.fault ad 32)=E at KA ⊢
     go_enter Tryz.func116,Tryz.ntmps116
     go_wp2_with (first
      | (go_at_call 71;refine (KN _).mono ?_;clear KN;rintro e w1 ⟨rfl,hb1⟩;have bb1:=below_via b0 hb1;have d0:=(hb1.cell (p:=⟨w.heap.size,0,none⟩) l0).trans (q0 0 _ rfl);have d2:=(hb1.cell (p:=⟨w.heap.size,2,none⟩) l0).trans (q0 2 _ rfl);have d3:=(hb1.cell (p:=⟨w.heap.size,3,none⟩) l0).trans (q0 3 _ rfl);have d5:=(hb1.cell (p:=⟨w.heap.size,5,none⟩) l0).trans (q0 5 _ rfl);have d6:=(hb1.cell (p:=⟨w.heap.size,6,none⟩) l0).trans (q0 6 _ rfl);have l1:=World.block_lt_of_cell? _ _ d0)
      | (go_at_call 162;refine (KS _).mono ?_;rintro e w4 ⟨rfl,hb4⟩;have bb4:=below_via bb1 hb4)
      | (go_at_call 84;refine (KA _).mono ?_;rintro e w3 ⟨rfl,hb3⟩;have bb3:=below_via bb4 hb3))
     go_ret
     exact⟨rfl,bb3⟩
    ·cases ho:Bur.isN ow.data.toList with
     | false=>
      rw[if_pos (by simp),ev_ne (by decide)]
      rw[show Bur.nmF ow.data.toList=5 from if_neg (by rw[ho];decide),ev_ne (by decide)] at KO
      clear ho
      go_enter Tryz.func116,Tryz.ntmps116
      go_wp2_with (first
       | (go_at_call 71;refine (KN _).mono ?_;clear KN;rintro e w1 ⟨rfl,hb1⟩;have bb1:=below_via b0 hb1;have d0:=(hb1.cell (p:=⟨w.heap.size,0,none⟩) l0).trans (q0 0 _ rfl);have d2:=(hb1.cell (p:=⟨w.heap.size,2,none⟩) l0).trans (q0 2 _ rfl);have d3:=(hb1.cell (p:=⟨w.heap.size,3,none⟩) l0).trans (q0 3 _ rfl);have d5:=(hb1.cell (p:=⟨w.heap.size,5,none⟩) l0).trans (q0 5 _ rfl);have d6:=(hb1.cell (p:=⟨w.heap.size,6,none⟩) l0).trans (q0 6 _ rfl);have l1:=World.block_lt_of_cell? _ _ d0)
       | (go_at_call 71;refine (KO _).mono ?_;clear KO;rintro e w2 ⟨rfl,hb2⟩;have bb2:=below_via bb1 hb2;have g0:=(hb2.cell (p:=⟨w.heap.size,0,none⟩) l1).trans d0;have g2:=(hb2.cell (p:=⟨w.heap.size,2,none⟩) l1).trans d2;have g3:=(hb2.cell (p:=⟨w.heap.size,3,none⟩) l1).trans d3;have g5:=(hb2.cell (p:=⟨w.heap.size,5,none⟩) l1).trans d5))
      go_ret
      exact⟨rfl,bb2⟩
     | true=>
      rw[show Bur.nmF ow.data.toList=0 from if_pos ho,ev_0] at KO
      rw[show (if ((6:Int)=1 \/ (6:Int)=2 \/ (6:Int)=4 \/ (6:Int)=6 \/ (6:Int)=7)/\true=false then (5:Int) else if (6:Int)=2 \/ (6:Int)=3 \/ (6:Int)=6 \/ (6:Int)=7 then Bur.fault p1 p2 else if (6:Int)=4 \/ (6:Int)=5 \/ (6:Int)=9 then Bur.fault ad 32 else 0)=Bur.fault p1 p2 from by simp]
      clear ho
      generalize ev (Bur.fault p1 p2)=E at KC ⊢
      go_enter Tryz.func116,Tryz.ntmps116
      go_wp2_with (first
       | (go_at_call 71;refine (KN _).mono ?_;clear KN;rintro e w1 ⟨rfl,hb1⟩;have bb1:=below_via b0 hb1;have d0:=(hb1.cell (p:=⟨w.heap.size,0,none⟩) l0).trans (q0 0 _ rfl);have d2:=(hb1.cell (p:=⟨w.heap.size,2,none⟩) l0).trans (q0 2 _ rfl);have d3:=(hb1.cell (p:=⟨w.heap.size,3,none⟩) l0).trans (q0 3 _ rfl);have d5:=(hb1.cell (p:=⟨w.heap.size,5,none⟩) l0).trans (q0 5 _ rfl);have d6:=(hb1.cell (p:=⟨w.heap.size,6,none⟩) l0).trans (q0 6 _ rfl);have l1:=World.block_lt_of_cell? _ _ d0)
       | (go_at_call 71;refine (KO _).mono ?_;clear KO;rintro e w2 ⟨rfl,hb2⟩;have bb2:=below_via bb1 hb2;have g0:=(hb2.cell (p:=⟨w.heap.size,0,none⟩) l1).trans d0;have g2:=(hb2.cell (p:=⟨w.heap.size,2,none⟩) l1).trans d2;have g3:=(hb2.cell (p:=⟨w.heap.size,3,none⟩) l1).trans d3;have g5:=(hb2.cell (p:=⟨w.heap.size,5,none⟩) l1).trans d5)
       | (go_at_call 84;refine (KC _).mono ?_;rintro e w3 ⟨rfl,hb3⟩;have bb3:=below_via bb2 hb3))
      go_ret
      exact⟨rfl,bb3⟩
    ·cases ho:Bur.isN ow.data.toList with
     | false=>
      rw[if_pos (by simp),ev_ne (by decide)]
      rw[show Bur.nmF ow.data.toList=5 from if_neg (by rw[ho];decide),ev_ne (by decide)] at KO
      clear ho
      go_enter Tryz.func116,Tryz.ntmps116
      go_wp2_with (first
       | (go_at_call 71;refine (KN _).mono ?_;clear KN;rintro e w1 ⟨rfl,hb1⟩;have bb1:=below_via b0 hb1;have d0:=(hb1.cell (p:=⟨w.heap.size,0,none⟩) l0).trans (q0 0 _ rfl);have d2:=(hb1.cell (p:=⟨w.heap.size,2,none⟩) l0).trans (q0 2 _ rfl);have d3:=(hb1.cell (p:=⟨w.heap.size,3,none⟩) l0).trans (q0 3 _ rfl);have d5:=(hb1.cell (p:=⟨w.heap.size,5,none⟩) l0).trans (q0 5 _ rfl);have d6:=(hb1.cell (p:=⟨w.heap.size,6,none⟩) l0).trans (q0 6 _ rfl);have l1:=World.block_lt_of_cell? _ _ d0)
       | (go_at_call 71;refine (KO _).mono ?_;clear KO;rintro e w2 ⟨rfl,hb2⟩;have bb2:=below_via bb1 hb2;have g0:=(hb2.cell (p:=⟨w.heap.size,0,none⟩) l1).trans d0;have g2:=(hb2.cell (p:=⟨w.heap.size,2,none⟩) l1).trans d2;have g3:=(hb2.cell (p:=⟨w.heap.size,3,none⟩) l1).trans d3;have g5:=(hb2.cell (p:=⟨w.heap.size,5,none⟩) l1).trans d5))
      go_ret
      exact⟨rfl,bb2⟩
     | true=>
      rw[show Bur.nmF ow.data.toList=0 from if_pos ho,ev_0] at KO
      rw[show (if ((7:Int)=1 \/ (7:Int)=2 \/ (7:Int)=4 \/ (7:Int)=6 \/ (7:Int)=7)/\true=false then (5:Int) else if (7:Int)=2 \/ (7:Int)=3 \/ (7:Int)=6 \/ (7:Int)=7 then Bur.fault p1 p2 else if (7:Int)=4 \/ (7:Int)=5 \/ (7:Int)=9 then Bur.fault ad 32 else 0)=Bur.fault p1 p2 from by simp]
      clear ho
      generalize ev (Bur.fault p1 p2)=E at KC ⊢
      go_enter Tryz.func116,Tryz.ntmps116
      go_wp2_with (first
       | (go_at_call 71;refine (KN _).mono ?_;clear KN;rintro e w1 ⟨rfl,hb1⟩;have bb1:=below_via b0 hb1;have d0:=(hb1.cell (p:=⟨w.heap.size,0,none⟩) l0).trans (q0 0 _ rfl);have d2:=(hb1.cell (p:=⟨w.heap.size,2,none⟩) l0).trans (q0 2 _ rfl);have d3:=(hb1.cell (p:=⟨w.heap.size,3,none⟩) l0).trans (q0 3 _ rfl);have d5:=(hb1.cell (p:=⟨w.heap.size,5,none⟩) l0).trans (q0 5 _ rfl);have d6:=(hb1.cell (p:=⟨w.heap.size,6,none⟩) l0).trans (q0 6 _ rfl);have l1:=World.block_lt_of_cell? _ _ d0)
       | (go_at_call 71;refine (KO _).mono ?_;clear KO;rintro e w2 ⟨rfl,hb2⟩;have bb2:=below_via bb1 hb2;have g0:=(hb2.cell (p:=⟨w.heap.size,0,none⟩) l1).trans d0;have g2:=(hb2.cell (p:=⟨w.heap.size,2,none⟩) l1).trans d2;have g3:=(hb2.cell (p:=⟨w.heap.size,3,none⟩) l1).trans d3;have g5:=(hb2.cell (p:=⟨w.heap.size,5,none⟩) l1).trans d5)
       | (go_at_call 84;refine (KC _).mono ?_;rintro e w3 ⟨rfl,hb3⟩;have bb3:=below_via bb2 hb3))
      go_ret
      exact⟨rfl,bb3⟩
    ·rw[show (if ((8:Int)=1 \/ (8:Int)=2 \/ (8:Int)=4 \/ (8:Int)=6 \/ (8:Int)=7)/\Bur.isN ow.data.toList=false then (5:Int) else if (8:Int)=2 \/ (8:Int)=3 \/ (8:Int)=6 \/ (8:Int)=7 then Bur.fault p1 p2 else if (8:Int)=4 \/ (8:Int)=5 \/ (8:Int)=9 then Bur.fault ad 32 else 0)=0 from by simp,ev_0]
     go_enter Tryz.func116,Tryz.ntmps116
     go_wp2_with (go_at_call 71;refine (KN _).mono ?_;clear KN;rintro e w1 ⟨rfl,hb1⟩;have bb1:=below_via b0 hb1;have d0:=(hb1.cell (p:=⟨w.heap.size,0,none⟩) l0).trans (q0 0 _ rfl);have d2:=(hb1.cell (p:=⟨w.heap.size,2,none⟩) l0).trans (q0 2 _ rfl);have d3:=(hb1.cell (p:=⟨w.heap.size,3,none⟩) l0).trans (q0 3 _ rfl);have d5:=(hb1.cell (p:=⟨w.heap.size,5,none⟩) l0).trans (q0 5 _ rfl);have d6:=(hb1.cell (p:=⟨w.heap.size,6,none⟩) l0).trans (q0 6 _ rfl);have l1:=World.block_lt_of_cell? _ _ d0)
     go_ret
     exact⟨rfl,bb1⟩
    ·rw[show (if ((9:Int)=1 \/ (9:Int)=2 \/ (9:Int)=4 \/ (9:Int)=6 \/ (9:Int)=7)/\Bur.isN ow.data.toList=false then (5:Int) else if (9:Int)=2 \/ (9:Int)=3 \/ (9:Int)=6 \/ (9:Int)=7 then Bur.fault p1 p2 else if (9:Int)=4 \/ (9:Int)=5 \/ (9:Int)=9 then Bur.fault ad 32 else 0)=Bur.fault ad 32 from by simp]
     generalize ev (Bur.fault ad 32)=E at KA ⊢
     go_enter Tryz.func116,Tryz.ntmps116
     go_wp2_with (first
      | (go_at_call 71;refine (KN _).mono ?_;clear KN;rintro e w1 ⟨rfl,hb1⟩;have bb1:=below_via b0 hb1;have d0:=(hb1.cell (p:=⟨w.heap.size,0,none⟩) l0).trans (q0 0 _ rfl);have d2:=(hb1.cell (p:=⟨w.heap.size,2,none⟩) l0).trans (q0 2 _ rfl);have d3:=(hb1.cell (p:=⟨w.heap.size,3,none⟩) l0).trans (q0 3 _ rfl);have d5:=(hb1.cell (p:=⟨w.heap.size,5,none⟩) l0).trans (q0 5 _ rfl);have d6:=(hb1.cell (p:=⟨w.heap.size,6,none⟩) l0).trans (q0 6 _ rfl);have l1:=World.block_lt_of_cell? _ _ d0)
      | (go_at_call 162;refine (KS _).mono ?_;rintro e w4 ⟨rfl,hb4⟩;have bb4:=below_via bb1 hb4)
      | (go_at_call 84;refine (KA _).mono ?_;rintro e w3 ⟨rfl,hb3⟩;have bb3:=below_via bb4 hb3))
     go_ret
     exact⟨rfl,bb3⟩
end Go.Proofs.YtcjdoeclblhaeaaGreatDoor.Pa
namespace Vs
def pBody (c:Cl) (is:Bool):Pg:=if c.what=1 then pNet c is else if is=false then err 4
 else if c.what=2 then pAdd c else if c.what=3 then pTake c else if c.what=4 then pPlace c else if c.what=5 then pLeave c
 else if c.what=6 then pNextP c else if c.what=7 then pNextA c else if c.what=8 then pList c else pWho c
theorem pWork_is (c:Cl):pWork c=asks (kN c.nm) fun _ is=>pBody c is:=rfl
def Rts (P:An->Prop):Pg->Prop
 | .ret a _=>P a
 | .get _ K=>∀ v f,Rts P (K v f)
 | .rng _ _ K=>∀ l f,Rts P (K l f)
 | .chg _ K=>∀ f,Rts P (K f)
theorem runA_of {P:An->Prop}:∀ (g:Pg) (d:Dk) (i:Int),Rts P g->P (runA g d i)
 | .ret _ _,_,_,h=>h
 | .get k K,d,i,h=>runA_of (K (dgS d i k) (dgF d i k)) _ i (h _ _)
 | .rng lo hi K,d,i,h=>runA_of (K (drS d i lo hi) (drF d i)) _ i (h _ _)
 | .chg c K,d,i,h=>runA_of (K (dcF d i c)) _ i (h _)
section
variable {P:An->Prop}
theorem rts_err (h0:P an0) (f:Int):Rts P (err f):=h0
theorem rts_asks (h0:P an0) {k:ByteArray} {K:ByteArray->Bool->Pg} (h:∀ v b,Rts P (K v b)):Rts P (asks k K):=fun v f=>by
 show Rts P (if f=4 then K ByteArray.empty false else if f=0 then K v true else err f)
 by_cases h4:f=4
 ·rw[if_pos h4];exact h _ _
 ·rw[if_neg h4]
  by_cases h5:f=0
  ·rw[if_pos h5];exact h _ _
  ·rw[if_neg h5];exact h0
theorem rts_allL (h0:P an0) {n:ByteArray} {K:List Lot->Pg} (h:∀ l,Rts P (K l)):Rts P (allL n K):=fun l f=>by
 show Rts P (if f=0 then K (lots l) else err f)
 by_cases h5:f=0
 ·rw[if_pos h5];exact h _
 ·rw[if_neg h5];exact h0
theorem rts_allA (h0:P an0) {n:ByteArray} {K:List Int->Pg} (h:∀ l,Rts P (K l)):Rts P (allA n K):=fun l f=>by
 show Rts P (if f=0 then K (plcd l) else err f)
 by_cases h5:f=0
 ·rw[if_pos h5];exact h _
 ·rw[if_neg h5];exact h0
theorem rts_puts (h0:P an0) {k v:ByteArray} {a:An} (h:P a):Rts P (puts k v a):=fun f=>by
 show Rts P (if f=0 then .ret a 0 else err f)
 by_cases h5:f=0
 ·rw[if_pos h5];exact h
 ·rw[if_neg h5];exact h0
theorem rts_drops (h0:P an0) {k:ByteArray}:Rts P (drops k):=fun _=>h0
theorem rts_allW (h0:P an0) {c:Cl} {K:List Lot->Pg} (h:∀ l,Rts P (K l)):Rts P (allW c K):=rts_allL h0 (fun l=>by
 by_cases h5:c.p∈l.map Prod.fst
 ·rw[if_pos h5];exact h _
 ·rw[if_neg h5];exact h0)
end
def Z0 (a:An):Prop:=a=an0
def Z6 (a:An):Prop:=a.ad=0/\a.ow=ByteArray.empty/\a.l=[]
def Z7 (a:An):Prop:=a.p=(0,0)/\a.ow=ByteArray.empty/\a.l=[]
def Z8 (a:An):Prop:=a.p=(0,0)/\a.ad=0/\a.ow=ByteArray.empty
def Z9 (a:An):Prop:=a.p=(0,0)/\a.ad=0/\a.l=[]
theorem z0:Z0 an0:=Eq.refl an0
theorem z6:Z6 an0:=⟨rfl,rfl,rfl⟩
theorem z7:Z7 an0:=⟨rfl,rfl,rfl⟩
theorem z8:Z8 an0:=⟨rfl,rfl,rfl⟩
theorem z9:Z9 an0:=⟨rfl,rfl,rfl⟩
theorem runA_add (c:Cl) (d:Dk) (i:Int):runA (pAdd c) d i=an0:=by
 have:Rts Z0 (pAdd c):=by
  refine rts_asks z0 (fun _ b=>?_)
  cases b
  ·exact rts_puts z0 z0
  ·exact rts_err z0 _
 exact runA_of _ _ _ this
theorem runA_take (c:Cl) (d:Dk) (i:Int):runA (pTake c) d i=an0:=by
 have:Rts Z0 (pTake c):=by
  refine rts_asks z0 (fun _ b=>?_)
  cases b
  ·exact rts_err z0 _
  ·rw[if_pos rfl]
   refine rts_allL z0 (fun l=>rts_allA z0 (fun u=>?_))
   by_cases h:tkF c.p l u=true
   ·rw[if_pos h];exact rts_err z0 _
   ·rw[if_neg h];exact rts_drops z0
 exact runA_of _ _ _ this
theorem runA_place (c:Cl) (d:Dk) (i:Int):runA (pPlace c) d i=an0:=by
 have:Rts Z0 (pPlace c):=by
  refine rts_allL z0 (fun l=>rts_asks z0 (fun _ b=>?_))
  by_cases h:hav l c.ad=[]
  ·rw[if_pos h];exact rts_err z0 _
  ·rw[if_neg h]
   cases b
   ·exact rts_puts z0 z0
   ·exact rts_err z0 _
 exact runA_of _ _ _ this
theorem runA_leave (c:Cl) (d:Dk) (i:Int):runA (pLeave c) d i=an0:=by
 have:Rts Z0 (pLeave c):=by
  refine rts_asks z0 (fun _ b=>?_)
  cases b
  ·exact rts_err z0 _
  ·exact rts_drops z0
 exact runA_of _ _ _ this
theorem runA_nextP (c:Cl) (d:Dk) (i:Int):Z6 (runA (pNextP c) d i):=by
 have:Rts Z6 (pNextP c):=by
  refine rts_allW z6 (fun l=>?_)
  by_cases h:Bur.fsF c.p (inn c.p l) c.len=0
  ·rw[if_pos h]
   by_cases h2:Bur.fsS c.p (inn c.p l) c.len=c.p
   ·rw[if_pos h2];exact rts_err z6 _
   ·rw[if_neg h2];exact rts_puts z6 ⟨rfl,rfl,rfl⟩
  ·rw[if_neg h];exact rts_err z6 _
 exact runA_of _ _ _ this
theorem runA_nextA (c:Cl) (d:Dk) (i:Int):Z7 (runA (pNextA c) d i):=by
 have:Rts Z7 (pNextA c):=by
  refine rts_allW z7 (fun l=>rts_allA z7 (fun u=>?_))
  by_cases h:Bur.nxF c.p (ins c.p u)=0
  ·rw[if_pos h];exact rts_puts z7 ⟨rfl,rfl,rfl⟩
  ·rw[if_neg h];exact rts_err z7 _
 exact runA_of _ _ _ this
theorem runA_list (c:Cl) (d:Dk) (i:Int):Z8 (runA (pList c) d i):=by
 have:Rts Z8 (pList c):=by
  refine rts_allL z8 (fun l=>?_)
  exact⟨rfl,rfl,rfl⟩
 exact runA_of _ _ _ this
theorem runA_who (c:Cl) (d:Dk) (i:Int):Z9 (runA (pWho c) d i):=by
 have:Rts Z9 (pWho c):=by
  refine rts_asks z9 (fun v b=>?_)
  cases b
  ·rw[if_neg (by decide)]
   refine rts_allL z9 (fun l=>?_)
   cases (hav l c.ad).getLast? with
   | none=>exact rts_err z9 _
   | some o=>exact⟨rfl,rfl,rfl⟩
  ·exact⟨rfl,rfl,rfl⟩
 exact runA_of _ _ _ this
end Vs
namespace Go.Proofs.YtcjdoeclblhaeaaGreatDoor.Pa
open Go.RowKit Go.Maps Vs
abbrev anV (a:An) (u:Value):Value:=.agg #[.int .i64 a.p.1,.int .i64 a.p.2,.int .i64 a.ad,.string a.ow,u]
structure Ab (w:World) (b:Nat) (v0 v1 v2 v3 v4:Value):Prop where
 c0:w.cell? ⟨b,0,none⟩=some v0
 c1:w.cell? ⟨b,1,none⟩=some v1
 c2:w.cell? ⟨b,2,none⟩=some v2
 c3:w.cell? ⟨b,3,none⟩=some v3
 c4:w.cell? ⟨b,4,none⟩=some v4
 f0:w.frozen? ⟨b,0,none⟩=false
 f1:w.frozen? ⟨b,1,none⟩=false
 f2:w.frozen? ⟨b,2,none⟩=false
 f3:w.frozen? ⟨b,3,none⟩=false
 f4:w.frozen? ⟨b,4,none⟩=false
theorem Ab.lt {w:World} {b:Nat} {v0 v1 v2 v3 v4:Value} (h:Ab w b v0 v1 v2 v3 v4):b<w.heap.size:=World.block_lt_of_cell? _ _ h.c0
theorem Ab.new (w:World) (v0 v1 v2 v3 v4:Value) (t:Nat):Ab (w.alloc (.cells #[v0,v1,v2,v3,v4] t)) w.heap.size v0 v1 v2 v3 v4:=⟨by simp,by simp,by simp,by simp,by simp,by simp,by simp,by simp,by simp,by simp⟩
theorem Ab.but {E:Nat->Prop} {w w':World} {b:Nat} {v0 v1 v2 v3 v4:Value} (h:Ab w b v0 v1 v2 v3 v4) (hb:But E w w') (hE:¬ E b):Ab w' b v0 v1 v2 v3 v4:=
 ⟨(hb.cell (p:=⟨b,0,none⟩) h.lt hE).trans h.c0,(hb.cell (p:=⟨b,1,none⟩) h.lt hE).trans h.c1,(hb.cell (p:=⟨b,2,none⟩) h.lt hE).trans h.c2,(hb.cell (p:=⟨b,3,none⟩) h.lt hE).trans h.c3,(hb.cell (p:=⟨b,4,none⟩) h.lt hE).trans h.c4,(hb.frozen (p:=⟨b,0,none⟩) h.lt hE).trans h.f0,(hb.frozen (p:=⟨b,1,none⟩) h.lt hE).trans h.f1,(hb.frozen (p:=⟨b,2,none⟩) h.lt hE).trans h.f2,(hb.frozen (p:=⟨b,3,none⟩) h.lt hE).trans h.f3,(hb.frozen (p:=⟨b,4,none⟩) h.lt hE).trans h.f4⟩
theorem Ab.step {w w':World} {b:Nat} {v0 v1 v2 v3 v4:Value} (h:Ab w b v0 v1 v2 v3 v4) (hb:Below w.heap.size w w'):Ab w' b v0 v1 v2 v3 v4:=h.but (E:=fun _=>False) (.below hb) id
theorem Ab.set0 {w:World} {b:Nat} {v0 v1 v2 v3 v4:Value} (h:Ab w b v0 v1 v2 v3 v4) (u:Value):Ab (w.setCell ⟨b,0,none⟩ u) b u v1 v2 v3 v4:=⟨set_at h.c0,set_off h.c1 (by decide),set_off h.c2 (by decide),set_off h.c3 (by decide),set_off h.c4 (by decide),fz_set h.f0,fz_set h.f1,fz_set h.f2,fz_set h.f3,fz_set h.f4⟩
theorem Ab.set1 {w:World} {b:Nat} {v0 v1 v2 v3 v4:Value} (h:Ab w b v0 v1 v2 v3 v4) (u:Value):Ab (w.setCell ⟨b,1,none⟩ u) b v0 u v2 v3 v4:=⟨set_off h.c0 (by decide),set_at h.c1,set_off h.c2 (by decide),set_off h.c3 (by decide),set_off h.c4 (by decide),fz_set h.f0,fz_set h.f1,fz_set h.f2,fz_set h.f3,fz_set h.f4⟩
theorem Ab.set2 {w:World} {b:Nat} {v0 v1 v2 v3 v4:Value} (h:Ab w b v0 v1 v2 v3 v4) (u:Value):Ab (w.setCell ⟨b,2,none⟩ u) b v0 v1 u v3 v4:=⟨set_off h.c0 (by decide),set_off h.c1 (by decide),set_at h.c2,set_off h.c3 (by decide),set_off h.c4 (by decide),fz_set h.f0,fz_set h.f1,fz_set h.f2,fz_set h.f3,fz_set h.f4⟩
theorem Ab.set3 {w:World} {b:Nat} {v0 v1 v2 v3 v4:Value} (h:Ab w b v0 v1 v2 v3 v4) (u:Value):Ab (w.setCell ⟨b,3,none⟩ u) b v0 v1 v2 u v4:=⟨set_off h.c0 (by decide),set_off h.c1 (by decide),set_off h.c2 (by decide),set_at h.c3,set_off h.c4 (by decide),fz_set h.f0,fz_set h.f1,fz_set h.f2,fz_set h.f3,fz_set h.f4⟩
theorem Ab.set4 {w:World} {b:Nat} {v0 v1 v2 v3 v4:Value} (h:Ab w b v0 v1 v2 v3 v4) (u:Value):Ab (w.setCell ⟨b,4,none⟩ u) b v0 v1 v2 v3 u:=⟨set_off h.c0 (by decide),set_off h.c1 (by decide),set_off h.c2 (by decide),set_off h.c3 (by decide),set_at h.c4,fz_set h.f0,fz_set h.f1,fz_set h.f2,fz_set h.f3,fz_set h.f4⟩
theorem Ab.all {w:World} {b:Nat} {v0 v1 v2 v3 v4:Value} (h:Ab w b v0 v1 v2 v3 v4) (u0 u1 u2 u3 u4:Value):Ab (((((w.setCell ⟨b,0,none⟩ u0).setCell ⟨b,1,none⟩ u1).setCell ⟨b,2,none⟩ u2).setCell ⟨b,3,none⟩ u3).setCell ⟨b,4,none⟩ u4) b u0 u1 u2 u3 u4:=((((h.set0 u0).set1 u1).set2 u2).set3 u3).set4 u4
theorem but_st (b:Nat) {w0 w:World} (h:But (fun j=>j=b) w0 w) (i:Nat) (u:Value):But (fun j=>j=b) w0 (w.setCell ⟨b,i,none⟩ u):=h.setCell (p:=⟨b,i,none⟩) (.inl rfl) u
theorem but_5 (b:Nat) {w0 w:World} (h:But (fun j=>j=b) w0 w) (u0 u1 u2 u3 u4:Value):But (fun j=>j=b) w0 (((((w.setCell ⟨b,0,none⟩ u0).setCell ⟨b,1,none⟩ u1).setCell ⟨b,2,none⟩ u2).setCell ⟨b,3,none⟩ u3).setCell ⟨b,4,none⟩ u4):=but_st b (but_st b (but_st b (but_st b (but_st b h 0 u0) 1 u1) 2 u2) 3 u3) 4 u4
theorem row_but {E:Nat->Prop} {w w':World} {B e size n:Nat} {v:Value} {xs:List Value} (h:w.ownsRow B e size v n xs) (hb:But E w w') (hE:∀ j,B<=j -> ¬ E j):w'.ownsRow B e size v n xs:=by
 refine⟨h.1,?_⟩
 rcases h.2 with hn|⟨g,cap,cur,rfl,h1,hg,rest⟩
 ·exact .inl hn
 ·exact .inr ⟨g,cap,cur,rfl,h1,(hb.block g (Array.getElem?_eq_some_iff.1 hg).1 (hE g h1)).trans hg,rest⟩
section
variable {T:Td} {F F1:Nat->Prop} {B:Nat} {d1:Dk}
def DoPost (T:Td) (F:Nat->Prop) (w:World) (B:Nat) (d:Dk) (a:An) (f:Int) (e:Ending) (w':World):Prop:=
 ∃ u,e=.returned (.tuple #[anV a u,ev f]) /\ ∃ F',Ds T w' F' B d/\(∀ j,F' j->Nw F w w' j)/\But F w w'/\w'.ownsRow w.heap.size 105 2 u a.l.length (pfV a.l) /\ ∀ j,u.ownBlock=some j -> ¬ F' j
theorem do_fin (V:DFace T) {w wx w5 wf:World} {F5:Nat->Prop} {d':Dk} {ab:Nat} (en:En w) (hB:But F w wx) (hN:∀ j,F1 j->Nw F w wx j) (h5:Ds T w5 F5 B d') (hn5:∀ j,F5 j->Nw F1 wx w5 j) (b5:But F1 wx w5) (hab:w.heap.size<=ab) (lab:ab<wx.heap.size) (nab:¬ F1 ab) (hb:But (fun j=>j=ab) w5 wf) :
  Ds T wf F5 B d'/\(∀ j,F5 j->Nw F w wf j)/\But F w wf:=by
 have s1:=hB.size
 have s2:=b5.size
 refine Ds.off V en h5 (fun j hj=>?_) (hB.then b5 (fun j hj q=>(hN j q).elim id (fun g=>by have:=g.1;omega))) hb (fun j hj=>?_)
 ·rcases hn5 j hj with g|g
  ·rcases hN j g with q|q
   ·exact .inl q
   ·exact .inr ⟨q.1,by have:=q.2;omega⟩
  ·exact .inr ⟨by have:=g.1;omega,g.2⟩
 ·subst hj
  refine⟨hab,fun q=>?_⟩
  rcases hn5 _ q with g|g
  ·exact nab g
  ·have:=g.1;omega
end
end Go.Proofs.YtcjdoeclblhaeaaGreatDoor.Pa
namespace Go.Proofs.YtcjdoeclblhaeaaGreatDoor.Pa
open Go.RowKit Go.Maps Vs
section
variable {T:Td} {F F1:Nat->Prop} {B:Nat} {d1:Dk}
theorem plDo2 (V:DFace T) (c:Cl) (i:Int) (is:Bool) {w wx:World} {c4 c6 c7 c8 c9 c10 c11 c12 c13 c14 c15 c16 c17 c18 c19 c20 c21 c22 c23 c24 c25 c26 c27 c28 c29 c30 c31 c32 c33 c34 c35 c36 c37 c38 c39 c40 c41 c42 c43 c44 c45 c46 c47 c48 c49 c50 c51 c52 c53 c54 c55 c56 c57 c58 c59 c60 c61 c62 c63 c64 c65 c66 c67 c68 c69 c70 c71 c72 c73 c74 c75 c76 c77 c78 c79 c80 c81 c82 c83 c84 c85 c86 c87:Value} (en:En w) (h:Ds T wx F1 B d1) (ok:OkD d1) (sm:Sm d1) (hcl:clF c=0) (wk:Wk wx w.heap.size B c i) (ab:Ab wx (w.heap.size+1) (.int .i64 0) (.int .i64 0) (.int .i64 0) (.string ⟨#[]⟩) (.slice none 0 0)) (n2:¬ F1 (w.heap.size+1)) (hN:∀ j,F1 j->Nw F w wx j) (hB:But F w wx) :
  Code.wp Tryz.prog (dropSeq 2 (Tryz.f117.body.getD .skip)) (bodyPost Tryz.prog Tryz.f117 fun e w'=>DoPost T F w B (runD (pBody c is) d1 i) (runA (pBody c is) d1 i) (runF (pBody c is) d1 i) e w') ⟨#[wkV B c i,.pointer (some ⟨w.heap.size,0,none⟩),.pointer (some ⟨w.heap.size+1,0,none⟩),.nilIface,c4,.bool is,c6,c7,c8,c9,c10,c11,c12,c13,c14,c15,c16,c17,c18,c19,c20,c21,c22,c23,c24,c25,c26,c27,c28,c29,c30,c31,c32,c33,c34,c35,c36,c37,c38,c39,c40,c41,c42,c43,c44,c45,c46,c47,c48,c49,c50,c51,c52,c53,c54,c55,c56,c57,c58,c59,c60,c61,c62,c63,c64,c65,c66,c67,c68,c69,c70,c71,c72,c73,c74,c75,c76,c77,c78,c79,c80,c81,c82,c83,c84,c85,c86,c87],[]⟩ wx:=by
 conv=>arg 2;whnf
 obtain⟨hw1,hw9,hnm⟩:=clF_in hcl
 have hn:c.nm.size<=1000:=by omega
 obtain⟨k0,k1,k2,k3,k4,k5,k6,k7,k8⟩:=id wk
 have lab:=ab.lt
 have FIN:=fun {w5 wf:World} {F5:Nat->Prop} {d':Dk} (h5:Ds T w5 F5 B d') (hn5:∀ j,F5 j->Nw F1 wx w5 j) (b5:But F1 wx w5) (hb:But (fun j=>j=w.heap.size+1) w5 wf)=>do_fin (F:=F) V en hB hN h5 hn5 b5 (Nat.le_succ _) lab n2 hb
 have FH:Hid _:=@FIN
 clear FIN
 obtain⟨bb,hbb⟩:∃ bb,bb=w.heap.size:=⟨_,rfl⟩
 have HBB:Hid (bb=w.heap.size):=hbb
 cases is with
 | false=>
  by_cases hk:c.what=1
  ·have how:=clF_ow hcl (.inl hk)
   have eB:pBody c false=puts (kN c.nm) c.ow an0:=by unfold pBody;rw[if_pos hk];rfl
   obtain⟨p1,p2,p3,p4⟩:=puts_is (d:=d1) (i:=i) (k:=kN c.nm) (v:=c.ow) an0
   rw[<- eB] at p1 p2 p3 p4
   obtain⟨E,hE⟩:∃ E,Hid (E=ev (dcF d1 i ⟨kN c.nm,c.ow,false⟩)):=⟨_,rfl⟩
   have E1:Hid (ev (runF (pBody c false) d1 i)=E):=(congrArg ev p1).trans hE.out.symm
   have E2:Hid (runD (pBody c false) d1 i=dcD d1 i ⟨kN c.nm,c.ow,false⟩):=p2
   have E3:Hid (runA (pBody c false) d1 i=an0):=by
    by_cases g:dcF d1 i ⟨kN c.nm,c.ow,false⟩=0
    ·exact p3 g
    ·exact p4 g
   have K:=plNetPut V c i h ok sm hn (by unfold maxLen;omega)
   rw[<- hE.out] at K
   have z1:(c.what==1)=true:=by rw[hk];rfl
   have z2:(c.what==2)=false:=by rw[hk];rfl
   have z3:(c.what==3)=false:=by rw[hk];rfl
   have z4:(c.what==4)=false:=by rw[hk];rfl
   have z5:(c.what==5)=false:=by rw[hk];rfl
   have z6:(c.what==6)=false:=by rw[hk];rfl
   have z7:(c.what==7)=false:=by rw[hk];rfl
   have z8:(c.what==8)=false:=by rw[hk];rfl
   have z9:(c.what==9)=false:=by rw[hk];rfl
   have zn:(c.what != 1)=false:=by rw[hk];rfl
   clear p1 p2 p3 p4 eB hk hw1 hw9
   go_wp2_with (go_at_call 164;refine K.mono ?_;clear K;rintro e w5 ⟨rfl,hj5⟩;obtain⟨F5,h5,hn5⟩:=hj5.ex;have b5:=hj5.bt;have ab5:=ab.but b5 n2;obtain⟨a0,a1,a2,a3,a4,af0,af1,af2,af3,af4⟩:=id ab5)
   exact bodyPost_ret (v:=.tuple #[anV an0 (.slice none 0 0),E]) (by simp[results,Tryz.results117,go_sem,an0,(ab5.all (.int .i64 0) (.int .i64 0) (.int .i64 0) (.string ⟨#[]⟩) (.slice none 0 0)).c0,(ab5.all (.int .i64 0) (.int .i64 0) (.int .i64 0) (.string ⟨#[]⟩) (.slice none 0 0)).c1,(ab5.all (.int .i64 0) (.int .i64 0) (.int .i64 0) (.string ⟨#[]⟩) (.slice none 0 0)).c2,(ab5.all (.int .i64 0) (.int .i64 0) (.int .i64 0) (.string ⟨#[]⟩) (.slice none 0 0)).c3,(ab5.all (.int .i64 0) (.int .i64 0) (.int .i64 0) (.string ⟨#[]⟩) (.slice none 0 0)).c4];rfl) rfl ⟨.slice none 0 0,by rw[E3.out,E1.out],F5,by rw[E2.out];exact (FH.out h5 hn5 b5 (but_5 _ (But.refl _ _) _ _ _ _ _)).1,(FH.out h5 hn5 b5 (but_5 _ (But.refl _ _) _ _ _ _ _)).2.1,(FH.out h5 hn5 b5 (but_5 _ (But.refl _ _) _ _ _ _ _)).2.2,by rw[E3.out];exact World.ownsRow_nil _ _ _ _,fun j hj=>by cases hj⟩
  ·have eB:pBody c false=err 4:=by unfold pBody;rw[if_neg hk,if_pos rfl]
   have E1:Hid (ev (runF (pBody c false) d1 i)=errN 4):=by show _=_;rw[eB];rfl
   have E2:Hid (runD (pBody c false) d1 i=d1):=by show _=_;rw[eB];rfl
   have E3:Hid (runA (pBody c false) d1 i=an0):=by show _=_;rw[eB];rfl
   have zn:(c.what != 1)=true:=by simp[hk]
   have ab5:=ab
   obtain⟨a0,a1,a2,a3,a4,af0,af1,af2,af3,af4⟩:=id ab
   clear hk eB hw1 hw9
   go_wp2_with fail
   exact bodyPost_ret (v:=.tuple #[anV an0 (.slice none 0 0),errN 4]) (by simp[results,Tryz.results117,go_sem,an0,(ab5.all (.int .i64 0) (.int .i64 0) (.int .i64 0) (.string ⟨#[]⟩) (.slice none 0 0)).c0,(ab5.all (.int .i64 0) (.int .i64 0) (.int .i64 0) (.string ⟨#[]⟩) (.slice none 0 0)).c1,(ab5.all (.int .i64 0) (.int .i64 0) (.int .i64 0) (.string ⟨#[]⟩) (.slice none 0 0)).c2,(ab5.all (.int .i64 0) (.int .i64 0) (.int .i64 0) (.string ⟨#[]⟩) (.slice none 0 0)).c3,(ab5.all (.int .i64 0) (.int .i64 0) (.int .i64 0) (.string ⟨#[]⟩) (.slice none 0 0)).c4];rfl) rfl ⟨.slice none 0 0,by rw[E3.out,E1.out],F1,by rw[E2.out];exact (FH.out h (fun _ hj=>.inl hj) (But.refl _ _) (but_5 _ (But.refl _ _) _ _ _ _ _)).1,(FH.out h (fun _ hj=>.inl hj) (But.refl _ _) (but_5 _ (But.refl _ _) _ _ _ _ _)).2.1,(FH.out h (fun _ hj=>.inl hj) (But.refl _ _) (but_5 _ (But.refl _ _) _ _ _ _ _)).2.2,by rw[E3.out];exact World.ownsRow_nil _ _ _ _,fun j hj=>by cases hj⟩
 | true=>
  have hk:c.what=1 \/ c.what=2 \/ c.what=3 \/ c.what=4 \/ c.what=5 \/ c.what=6 \/ c.what=7 \/ c.what=8 \/ c.what=9:=by omega
  clear hw1 hw9
  rcases hk with hk|hk|hk|hk|hk|hk|hk|hk|hk
  ·skip
   have eB:pBody c true=err 6:=by unfold pBody;rw[if_pos hk];rfl
   have E1:Hid (ev (runF (pBody c true) d1 i)=errN 6):=by show _=_;rw[eB];rfl
   have E2:Hid (runD (pBody c true) d1 i=d1):=by show _=_;rw[eB];rfl
   have E3:Hid (runA (pBody c true) d1 i=an0):=by show _=_;rw[eB];rfl
   have K:=plNetNo V c i h
   have z1:(c.what==1)=true:=by rw[hk];rfl
   have z2:(c.what==2)=false:=by rw[hk];rfl
   have z3:(c.what==3)=false:=by rw[hk];rfl
   have z4:(c.what==4)=false:=by rw[hk];rfl
   have z5:(c.what==5)=false:=by rw[hk];rfl
   have z6:(c.what==6)=false:=by rw[hk];rfl
   have z7:(c.what==7)=false:=by rw[hk];rfl
   have z8:(c.what==8)=false:=by rw[hk];rfl
   have z9:(c.what==9)=false:=by rw[hk];rfl
   have zn:(c.what != 1)=false:=by rw[hk];rfl
   clear eB hk
   go_wp2_with (go_at_call 164;refine K.mono ?_;clear K;rintro e w5 ⟨rfl,hj5⟩;obtain⟨F5,h5,hn5⟩:=hj5.ex;have b5:=hj5.bt;have ab5:=ab.but b5 n2;obtain⟨a0,a1,a2,a3,a4,af0,af1,af2,af3,af4⟩:=id ab5)
   exact bodyPost_ret (v:=.tuple #[anV an0 (.slice none 0 0),errN 6]) (by simp[results,Tryz.results117,go_sem,an0,(ab5.all (.int .i64 0) (.int .i64 0) (.int .i64 0) (.string ⟨#[]⟩) (.slice none 0 0)).c0,(ab5.all (.int .i64 0) (.int .i64 0) (.int .i64 0) (.string ⟨#[]⟩) (.slice none 0 0)).c1,(ab5.all (.int .i64 0) (.int .i64 0) (.int .i64 0) (.string ⟨#[]⟩) (.slice none 0 0)).c2,(ab5.all (.int .i64 0) (.int .i64 0) (.int .i64 0) (.string ⟨#[]⟩) (.slice none 0 0)).c3,(ab5.all (.int .i64 0) (.int .i64 0) (.int .i64 0) (.string ⟨#[]⟩) (.slice none 0 0)).c4];rfl) rfl ⟨.slice none 0 0,by rw[E3.out,E1.out],F5,by rw[E2.out];exact (FH.out h5 hn5 b5 (but_5 _ (But.refl _ _) _ _ _ _ _)).1,(FH.out h5 hn5 b5 (but_5 _ (But.refl _ _) _ _ _ _ _)).2.1,(FH.out h5 hn5 b5 (but_5 _ (But.refl _ _) _ _ _ _ _)).2.2,by rw[E3.out];exact World.ownsRow_nil _ _ _ _,fun j hj=>by cases hj⟩
  ·skip
   obtain⟨g0,g1,g2,g3,_⟩:=Bur.fault_ok (clF_p hcl (by omega))
   have eB:pBody c true=pAdd c:=by unfold pBody;rw[if_neg (by rw[hk];decide),if_neg (by decide),if_pos hk]
   rw[eB]
   have K:=plAdd V c i h ok sm hn (by have:=clF_ow hcl (by omega);unfold maxLen;omega) g2 g3 g0 (by omega)
   obtain⟨E,hE⟩:∃ E,Hid (E=ev (runF (pAdd c) d1 i)):=⟨_,rfl⟩
   have E1:Hid (ev (runF (pAdd c) d1 i)=E):=hE.out.symm
   have E3:Hid (runA (pAdd c) d1 i=an0):=runA_add c d1 i
   rw[<- hE.out] at K
   have z1:(c.what==1)=false:=by rw[hk];rfl
   have z2:(c.what==2)=true:=by rw[hk];rfl
   have z3:(c.what==3)=false:=by rw[hk];rfl
   have z4:(c.what==4)=false:=by rw[hk];rfl
   have z5:(c.what==5)=false:=by rw[hk];rfl
   have z6:(c.what==6)=false:=by rw[hk];rfl
   have z7:(c.what==7)=false:=by rw[hk];rfl
   have z8:(c.what==8)=false:=by rw[hk];rfl
   have z9:(c.what==9)=false:=by rw[hk];rfl
   have zn:(c.what != 1)=true:=by rw[hk];rfl
   clear eB hk
   go_wp2_with (go_at_call 165;refine K.mono ?_;clear K;rintro e w5 ⟨rfl,hj5⟩;obtain⟨F5,h5,hn5⟩:=hj5.ex;have b5:=hj5.bt;have ab5:=ab.but b5 n2;obtain⟨a0,a1,a2,a3,a4,af0,af1,af2,af3,af4⟩:=id ab5)
   exact bodyPost_ret (v:=.tuple #[anV an0 (.slice none 0 0),E]) (by simp[results,Tryz.results117,go_sem,an0,(ab5.all (.int .i64 0) (.int .i64 0) (.int .i64 0) (.string ⟨#[]⟩) (.slice none 0 0)).c0,(ab5.all (.int .i64 0) (.int .i64 0) (.int .i64 0) (.string ⟨#[]⟩) (.slice none 0 0)).c1,(ab5.all (.int .i64 0) (.int .i64 0) (.int .i64 0) (.string ⟨#[]⟩) (.slice none 0 0)).c2,(ab5.all (.int .i64 0) (.int .i64 0) (.int .i64 0) (.string ⟨#[]⟩) (.slice none 0 0)).c3,(ab5.all (.int .i64 0) (.int .i64 0) (.int .i64 0) (.string ⟨#[]⟩) (.slice none 0 0)).c4];rfl) rfl ⟨.slice none 0 0,by rw[E3.out,E1.out],F5,(FH.out h5 hn5 b5 (but_5 _ (But.refl _ _) _ _ _ _ _)).1,(FH.out h5 hn5 b5 (but_5 _ (But.refl _ _) _ _ _ _ _)).2.1,(FH.out h5 hn5 b5 (but_5 _ (But.refl _ _) _ _ _ _ _)).2.2,by rw[E3.out];exact World.ownsRow_nil _ _ _ _,fun j hj=>by cases hj⟩
  ·skip
   obtain⟨g0,g1,g2,g3,_⟩:=Bur.fault_ok (clF_p hcl (by omega))
   have eB:pBody c true=pTake c:=by unfold pBody;rw[if_neg (by rw[hk];decide),if_neg (by decide),if_neg (by rw[hk];decide),if_pos hk]
   rw[eB]
   have K:=plTake V c i h ok sm hn g2 g3 g0 (by omega)
   obtain⟨E,hE⟩:∃ E,Hid (E=ev (runF (pTake c) d1 i)):=⟨_,rfl⟩
   have E1:Hid (ev (runF (pTake c) d1 i)=E):=hE.out.symm
   have E3:Hid (runA (pTake c) d1 i=an0):=runA_take c d1 i
   rw[<- hE.out] at K
   have z1:(c.what==1)=false:=by rw[hk];rfl
   have z2:(c.what==2)=false:=by rw[hk];rfl
   have z3:(c.what==3)=true:=by rw[hk];rfl
   have z4:(c.what==4)=false:=by rw[hk];rfl
   have z5:(c.what==5)=false:=by rw[hk];rfl
   have z6:(c.what==6)=false:=by rw[hk];rfl
   have z7:(c.what==7)=false:=by rw[hk];rfl
   have z8:(c.what==8)=false:=by rw[hk];rfl
   have z9:(c.what==9)=false:=by rw[hk];rfl
   have zn:(c.what != 1)=true:=by rw[hk];rfl
   clear eB hk
   go_wp2_with (go_at_call 166;refine K.mono ?_;clear K;rintro e w5 ⟨rfl,hj5⟩;obtain⟨F5,h5,hn5⟩:=hj5.ex;have b5:=hj5.bt;have ab5:=ab.but b5 n2;obtain⟨a0,a1,a2,a3,a4,af0,af1,af2,af3,af4⟩:=id ab5)
   exact bodyPost_ret (v:=.tuple #[anV an0 (.slice none 0 0),E]) (by simp[results,Tryz.results117,go_sem,an0,(ab5.all (.int .i64 0) (.int .i64 0) (.int .i64 0) (.string ⟨#[]⟩) (.slice none 0 0)).c0,(ab5.all (.int .i64 0) (.int .i64 0) (.int .i64 0) (.string ⟨#[]⟩) (.slice none 0 0)).c1,(ab5.all (.int .i64 0) (.int .i64 0) (.int .i64 0) (.string ⟨#[]⟩) (.slice none 0 0)).c2,(ab5.all (.int .i64 0) (.int .i64 0) (.int .i64 0) (.string ⟨#[]⟩) (.slice none 0 0)).c3,(ab5.all (.int .i64 0) (.int .i64 0) (.int .i64 0) (.string ⟨#[]⟩) (.slice none 0 0)).c4];rfl) rfl ⟨.slice none 0 0,by rw[E3.out,E1.out],F5,(FH.out h5 hn5 b5 (but_5 _ (But.refl _ _) _ _ _ _ _)).1,(FH.out h5 hn5 b5 (but_5 _ (But.refl _ _) _ _ _ _ _)).2.1,(FH.out h5 hn5 b5 (but_5 _ (But.refl _ _) _ _ _ _ _)).2.2,by rw[E3.out];exact World.ownsRow_nil _ _ _ _,fun j hj=>by cases hj⟩
  ·skip
   obtain⟨_,_,g2,g3,_⟩:=Bur.fault_ok (clF_a hcl (by omega))
   have eB:pBody c true=pPlace c:=by unfold pBody;rw[if_neg (by rw[hk];decide),if_neg (by decide),if_neg (by rw[hk];decide),if_neg (by rw[hk];decide),if_pos hk]
   rw[eB]
   have K:=plPlace V c i h ok sm hn (by have:=clF_ow hcl (by omega);unfold maxLen;omega) g2 g3
   obtain⟨E,hE⟩:∃ E,Hid (E=ev (runF (pPlace c) d1 i)):=⟨_,rfl⟩
   have E1:Hid (ev (runF (pPlace c) d1 i)=E):=hE.out.symm
   have E3:Hid (runA (pPlace c) d1 i=an0):=runA_place c d1 i
   rw[<- hE.out] at K
   have z1:(c.what==1)=false:=by rw[hk];rfl
   have z2:(c.what==2)=false:=by rw[hk];rfl
   have z3:(c.what==3)=false:=by rw[hk];rfl
   have z4:(c.what==4)=true:=by rw[hk];rfl
   have z5:(c.what==5)=false:=by rw[hk];rfl
   have z6:(c.what==6)=false:=by rw[hk];rfl
   have z7:(c.what==7)=false:=by rw[hk];rfl
   have z8:(c.what==8)=false:=by rw[hk];rfl
   have z9:(c.what==9)=false:=by rw[hk];rfl
   have zn:(c.what != 1)=true:=by rw[hk];rfl
   clear eB hk
   go_wp2_with (go_at_call 167;refine K.mono ?_;clear K;rintro e w5 ⟨rfl,hj5⟩;obtain⟨F5,h5,hn5⟩:=hj5.ex;have b5:=hj5.bt;have ab5:=ab.but b5 n2;obtain⟨a0,a1,a2,a3,a4,af0,af1,af2,af3,af4⟩:=id ab5)
   exact bodyPost_ret (v:=.tuple #[anV an0 (.slice none 0 0),E]) (by simp[results,Tryz.results117,go_sem,an0,(ab5.all (.int .i64 0) (.int .i64 0) (.int .i64 0) (.string ⟨#[]⟩) (.slice none 0 0)).c0,(ab5.all (.int .i64 0) (.int .i64 0) (.int .i64 0) (.string ⟨#[]⟩) (.slice none 0 0)).c1,(ab5.all (.int .i64 0) (.int .i64 0) (.int .i64 0) (.string ⟨#[]⟩) (.slice none 0 0)).c2,(ab5.all (.int .i64 0) (.int .i64 0) (.int .i64 0) (.string ⟨#[]⟩) (.slice none 0 0)).c3,(ab5.all (.int .i64 0) (.int .i64 0) (.int .i64 0) (.string ⟨#[]⟩) (.slice none 0 0)).c4];rfl) rfl ⟨.slice none 0 0,by rw[E3.out,E1.out],F5,(FH.out h5 hn5 b5 (but_5 _ (But.refl _ _) _ _ _ _ _)).1,(FH.out h5 hn5 b5 (but_5 _ (But.refl _ _) _ _ _ _ _)).2.1,(FH.out h5 hn5 b5 (but_5 _ (But.refl _ _) _ _ _ _ _)).2.2,by rw[E3.out];exact World.ownsRow_nil _ _ _ _,fun j hj=>by cases hj⟩
  ·skip
   obtain⟨_,_,g2,g3,_⟩:=Bur.fault_ok (clF_a hcl (by omega))
   have eB:pBody c true=pLeave c:=by unfold pBody;rw[if_neg (by rw[hk];decide),if_neg (by decide),if_neg (by rw[hk];decide),if_neg (by rw[hk];decide),if_neg (by rw[hk];decide),if_pos hk]
   rw[eB]
   have K:=plLeave V c i h ok sm hn g2 g3
   obtain⟨E,hE⟩:∃ E,Hid (E=ev (runF (pLeave c) d1 i)):=⟨_,rfl⟩
   have E1:Hid (ev (runF (pLeave c) d1 i)=E):=hE.out.symm
   have E3:Hid (runA (pLeave c) d1 i=an0):=runA_leave c d1 i
   rw[<- hE.out] at K
   have z1:(c.what==1)=false:=by rw[hk];rfl
   have z2:(c.what==2)=false:=by rw[hk];rfl
   have z3:(c.what==3)=false:=by rw[hk];rfl
   have z4:(c.what==4)=false:=by rw[hk];rfl
   have z5:(c.what==5)=true:=by rw[hk];rfl
   have z6:(c.what==6)=false:=by rw[hk];rfl
   have z7:(c.what==7)=false:=by rw[hk];rfl
   have z8:(c.what==8)=false:=by rw[hk];rfl
   have z9:(c.what==9)=false:=by rw[hk];rfl
   have zn:(c.what != 1)=true:=by rw[hk];rfl
   clear eB hk
   go_wp2_with (go_at_call 168;refine K.mono ?_;clear K;rintro e w5 ⟨rfl,hj5⟩;obtain⟨F5,h5,hn5⟩:=hj5.ex;have b5:=hj5.bt;have ab5:=ab.but b5 n2;obtain⟨a0,a1,a2,a3,a4,af0,af1,af2,af3,af4⟩:=id ab5)
   exact bodyPost_ret (v:=.tuple #[anV an0 (.slice none 0 0),E]) (by simp[results,Tryz.results117,go_sem,an0,(ab5.all (.int .i64 0) (.int .i64 0) (.int .i64 0) (.string ⟨#[]⟩) (.slice none 0 0)).c0,(ab5.all (.int .i64 0) (.int .i64 0) (.int .i64 0) (.string ⟨#[]⟩) (.slice none 0 0)).c1,(ab5.all (.int .i64 0) (.int .i64 0) (.int .i64 0) (.string ⟨#[]⟩) (.slice none 0 0)).c2,(ab5.all (.int .i64 0) (.int .i64 0) (.int .i64 0) (.string ⟨#[]⟩) (.slice none 0 0)).c3,(ab5.all (.int .i64 0) (.int .i64 0) (.int .i64 0) (.string ⟨#[]⟩) (.slice none 0 0)).c4];rfl) rfl ⟨.slice none 0 0,by rw[E3.out,E1.out],F5,(FH.out h5 hn5 b5 (but_5 _ (But.refl _ _) _ _ _ _ _)).1,(FH.out h5 hn5 b5 (but_5 _ (But.refl _ _) _ _ _ _ _)).2.1,(FH.out h5 hn5 b5 (but_5 _ (But.refl _ _) _ _ _ _ _)).2.2,by rw[E3.out];exact World.ownsRow_nil _ _ _ _,fun j hj=>by cases hj⟩
  ·skip
   have eB:pBody c true=pNextP c:=by unfold pBody;rw[if_neg (by rw[hk];decide),if_neg (by decide),if_neg (by rw[hk];decide),if_neg (by rw[hk];decide),if_neg (by rw[hk];decide),if_neg (by rw[hk];decide),if_pos hk]
   rw[eB]
   have K:=plNextP V c i h ok sm hn (by have:=clF_ow hcl (by omega);unfold maxLen;omega)
   obtain⟨E,hE⟩:∃ E,Hid (E=ev (runF (pNextP c) d1 i)):=⟨_,rfl⟩
   rw[<- hE.out] at K
   have E1:Hid (ev (runF (pNextP c) d1 i)=E):=hE.out.symm
   obtain⟨r1,r2,r3⟩:=runA_nextP c d1 i
   have hA:Hid ((runA (pNextP c) d1 i)=⟨(runA (pNextP c) d1 i).p,0,ByteArray.empty,[]⟩):=by show _=_;rw[<- r1,<- r2,<- r3]
   generalize (runA (pNextP c) d1 i).p=Q at K hA
   have z1:(c.what==1)=false:=by rw[hk];rfl
   have z2:(c.what==2)=false:=by rw[hk];rfl
   have z3:(c.what==3)=false:=by rw[hk];rfl
   have z4:(c.what==4)=false:=by rw[hk];rfl
   have z5:(c.what==5)=false:=by rw[hk];rfl
   have z6:(c.what==6)=true:=by rw[hk];rfl
   have z7:(c.what==7)=false:=by rw[hk];rfl
   have z8:(c.what==8)=false:=by rw[hk];rfl
   have z9:(c.what==9)=false:=by rw[hk];rfl
   have zn:(c.what != 1)=true:=by rw[hk];rfl
   clear eB hk r1 r2 r3
   go_wp2_with (go_at_call 169;refine K.mono ?_;clear K;rintro e w5 ⟨rfl,hj5⟩;obtain⟨F5,h5,hn5⟩:=hj5.ex;have b5:=hj5.bt;have ab5:=ab.but b5 n2;obtain⟨a0,a1,a2,a3,a4,af0,af1,af2,af3,af4⟩:=id ab5)
   exact bodyPost_ret (v:=.tuple #[anV ⟨Q,0,ByteArray.empty,[]⟩ (.slice none 0 0),E]) (by simp[results,Tryz.results117,go_sem,(((ab5.set0 (.int .i64 Q.1)).set1 (.int .i64 Q.2)).all (.int .i64 Q.1) (.int .i64 Q.2) (.int .i64 0) (.string ⟨#[]⟩) (.slice none 0 0)).c0,(((ab5.set0 (.int .i64 Q.1)).set1 (.int .i64 Q.2)).all (.int .i64 Q.1) (.int .i64 Q.2) (.int .i64 0) (.string ⟨#[]⟩) (.slice none 0 0)).c1,(((ab5.set0 (.int .i64 Q.1)).set1 (.int .i64 Q.2)).all (.int .i64 Q.1) (.int .i64 Q.2) (.int .i64 0) (.string ⟨#[]⟩) (.slice none 0 0)).c2,(((ab5.set0 (.int .i64 Q.1)).set1 (.int .i64 Q.2)).all (.int .i64 Q.1) (.int .i64 Q.2) (.int .i64 0) (.string ⟨#[]⟩) (.slice none 0 0)).c3,(((ab5.set0 (.int .i64 Q.1)).set1 (.int .i64 Q.2)).all (.int .i64 Q.1) (.int .i64 Q.2) (.int .i64 0) (.string ⟨#[]⟩) (.slice none 0 0)).c4];rfl) rfl ⟨.slice none 0 0,by rw[hA.out,E1.out],F5,(FH.out h5 hn5 b5 (but_5 _ (but_st _ (but_st _ (But.refl _ _) 0 _) 1 _) _ _ _ _ _)).1,(FH.out h5 hn5 b5 (but_5 _ (but_st _ (but_st _ (But.refl _ _) 0 _) 1 _) _ _ _ _ _)).2.1,(FH.out h5 hn5 b5 (but_5 _ (but_st _ (but_st _ (But.refl _ _) 0 _) 1 _) _ _ _ _ _)).2.2,by rw[hA.out];exact World.ownsRow_nil _ _ _ _,fun j hj=>by cases hj⟩
  ·skip
   have eB:pBody c true=pNextA c:=by unfold pBody;rw[if_neg (by rw[hk];decide),if_neg (by decide),if_neg (by rw[hk];decide),if_neg (by rw[hk];decide),if_neg (by rw[hk];decide),if_neg (by rw[hk];decide),if_neg (by rw[hk];decide),if_pos hk]
   rw[eB]
   have K:=plNextA V c i h ok sm hn (by have:=clF_ow hcl (by omega);unfold maxLen;omega)
   obtain⟨E,hE⟩:∃ E,Hid (E=ev (runF (pNextA c) d1 i)):=⟨_,rfl⟩
   rw[<- hE.out] at K
   have E1:Hid (ev (runF (pNextA c) d1 i)=E):=hE.out.symm
   obtain⟨r1,r2,r3⟩:=runA_nextA c d1 i
   have hA:Hid ((runA (pNextA c) d1 i)=⟨(0,0),(runA (pNextA c) d1 i).ad,ByteArray.empty,[]⟩):=by show _=_;rw[<- r1,<- r2,<- r3]
   generalize (runA (pNextA c) d1 i).ad=Q at K hA
   have z1:(c.what==1)=false:=by rw[hk];rfl
   have z2:(c.what==2)=false:=by rw[hk];rfl
   have z3:(c.what==3)=false:=by rw[hk];rfl
   have z4:(c.what==4)=false:=by rw[hk];rfl
   have z5:(c.what==5)=false:=by rw[hk];rfl
   have z6:(c.what==6)=false:=by rw[hk];rfl
   have z7:(c.what==7)=true:=by rw[hk];rfl
   have z8:(c.what==8)=false:=by rw[hk];rfl
   have z9:(c.what==9)=false:=by rw[hk];rfl
   have zn:(c.what != 1)=true:=by rw[hk];rfl
   clear eB hk r1 r2 r3
   go_wp2_with (go_at_call 170;refine K.mono ?_;clear K;rintro e w5 ⟨rfl,hj5⟩;obtain⟨F5,h5,hn5⟩:=hj5.ex;have b5:=hj5.bt;have ab5:=ab.but b5 n2;obtain⟨a0,a1,a2,a3,a4,af0,af1,af2,af3,af4⟩:=id ab5)
   exact bodyPost_ret (v:=.tuple #[anV ⟨(0,0),Q,ByteArray.empty,[]⟩ (.slice none 0 0),E]) (by simp[results,Tryz.results117,go_sem,((ab5.set2 (.int .i64 Q)).all (.int .i64 0) (.int .i64 0) (.int .i64 Q) (.string ⟨#[]⟩) (.slice none 0 0)).c0,((ab5.set2 (.int .i64 Q)).all (.int .i64 0) (.int .i64 0) (.int .i64 Q) (.string ⟨#[]⟩) (.slice none 0 0)).c1,((ab5.set2 (.int .i64 Q)).all (.int .i64 0) (.int .i64 0) (.int .i64 Q) (.string ⟨#[]⟩) (.slice none 0 0)).c2,((ab5.set2 (.int .i64 Q)).all (.int .i64 0) (.int .i64 0) (.int .i64 Q) (.string ⟨#[]⟩) (.slice none 0 0)).c3,((ab5.set2 (.int .i64 Q)).all (.int .i64 0) (.int .i64 0) (.int .i64 Q) (.string ⟨#[]⟩) (.slice none 0 0)).c4];rfl) rfl ⟨.slice none 0 0,by rw[hA.out,E1.out],F5,(FH.out h5 hn5 b5 (but_5 _ (but_st _ (But.refl _ _) 2 _) _ _ _ _ _)).1,(FH.out h5 hn5 b5 (but_5 _ (but_st _ (But.refl _ _) 2 _) _ _ _ _ _)).2.1,(FH.out h5 hn5 b5 (but_5 _ (but_st _ (But.refl _ _) 2 _) _ _ _ _ _)).2.2,by rw[hA.out];exact World.ownsRow_nil _ _ _ _,fun j hj=>by cases hj⟩
  ·skip
   have eB:pBody c true=pList c:=by unfold pBody;rw[if_neg (by rw[hk];decide),if_neg (by decide),if_neg (by rw[hk];decide),if_neg (by rw[hk];decide),if_neg (by rw[hk];decide),if_neg (by rw[hk];decide),if_neg (by rw[hk];decide),if_neg (by rw[hk];decide),if_pos hk]
   rw[eB]
   have K:=plList V c i h ok sm hn
   obtain⟨E,hE⟩:∃ E,Hid (E=ev (runF (pList c) d1 i)):=⟨_,rfl⟩
   rw[<- hE.out] at K
   have E1:Hid (ev (runF (pList c) d1 i)=E):=hE.out.symm
   obtain⟨r1,r2,r3⟩:=runA_list c d1 i
   have hA:Hid ((runA (pList c) d1 i)=⟨(0,0),0,ByteArray.empty,(runA (pList c) d1 i).l⟩):=by show _=_;rw[<- r1,<- r2,<- r3]
   generalize (runA (pList c) d1 i).l=Q at K hA
   have z1:(c.what==1)=false:=by rw[hk];rfl
   have z2:(c.what==2)=false:=by rw[hk];rfl
   have z3:(c.what==3)=false:=by rw[hk];rfl
   have z4:(c.what==4)=false:=by rw[hk];rfl
   have z5:(c.what==5)=false:=by rw[hk];rfl
   have z6:(c.what==6)=false:=by rw[hk];rfl
   have z7:(c.what==7)=false:=by rw[hk];rfl
   have z8:(c.what==8)=true:=by rw[hk];rfl
   have z9:(c.what==9)=false:=by rw[hk];rfl
   have zn:(c.what != 1)=true:=by rw[hk];rfl
   clear eB hk r1 r2 r3
   go_wp2_with (go_at_call 171;refine K.mono ?_;clear K;rintro e w5 ⟨u,rfl,F5,h5,hn5,b5,row5,sep5⟩;have ab5:=ab.but b5 n2;obtain⟨a0,a1,a2,a3,a4,af0,af1,af2,af3,af4⟩:=id ab5;obtain⟨pu,cu,rfl⟩:=own_form row5)
   exact bodyPost_ret (v:=.tuple #[anV ⟨(0,0),0,ByteArray.empty,Q⟩ (.slice pu Q.length cu),E]) (by simp[results,Tryz.results117,go_sem,((ab5.set4 (.slice pu Q.length cu)).all (.int .i64 0) (.int .i64 0) (.int .i64 0) (.string ⟨#[]⟩) (.slice pu Q.length cu)).c0,((ab5.set4 (.slice pu Q.length cu)).all (.int .i64 0) (.int .i64 0) (.int .i64 0) (.string ⟨#[]⟩) (.slice pu Q.length cu)).c1,((ab5.set4 (.slice pu Q.length cu)).all (.int .i64 0) (.int .i64 0) (.int .i64 0) (.string ⟨#[]⟩) (.slice pu Q.length cu)).c2,((ab5.set4 (.slice pu Q.length cu)).all (.int .i64 0) (.int .i64 0) (.int .i64 0) (.string ⟨#[]⟩) (.slice pu Q.length cu)).c3,((ab5.set4 (.slice pu Q.length cu)).all (.int .i64 0) (.int .i64 0) (.int .i64 0) (.string ⟨#[]⟩) (.slice pu Q.length cu)).c4];rfl) rfl ⟨.slice pu Q.length cu,by rw[hA.out,E1.out],F5,(FH.out h5 hn5 b5 (but_5 _ (but_st _ (But.refl _ _) 4 _) _ _ _ _ _)).1,(FH.out h5 hn5 b5 (but_5 _ (but_st _ (But.refl _ _) 4 _) _ _ _ _ _)).2.1,(FH.out h5 hn5 b5 (but_5 _ (but_st _ (But.refl _ _) 4 _) _ _ _ _ _)).2.2,by rw[hA.out];exact ownMono (by have:=hB.size;omega) (row_but row5 (but_5 _ (but_st _ (But.refl _ _) 4 _) _ _ _ _ _) (fun j hj q=>by omega)),sep5⟩
  ·skip
   obtain⟨_,_,g2,g3,_⟩:=Bur.fault_ok (clF_a hcl (by omega))
   have eB:pBody c true=pWho c:=by unfold pBody;rw[if_neg (by rw[hk];decide),if_neg (by decide),if_neg (by rw[hk];decide),if_neg (by rw[hk];decide),if_neg (by rw[hk];decide),if_neg (by rw[hk];decide),if_neg (by rw[hk];decide),if_neg (by rw[hk];decide),if_neg (by rw[hk];decide)]
   rw[eB]
   have K:=plWho V c i h ok sm hn g2 g3
   obtain⟨E,hE⟩:∃ E,Hid (E=ev (runF (pWho c) d1 i)):=⟨_,rfl⟩
   rw[<- hE.out] at K
   have E1:Hid (ev (runF (pWho c) d1 i)=E):=hE.out.symm
   obtain⟨r1,r2,r3⟩:=runA_who c d1 i
   have hA:Hid ((runA (pWho c) d1 i)=⟨(0,0),0,(runA (pWho c) d1 i).ow,[]⟩):=by show _=_;rw[<- r1,<- r2,<- r3]
   generalize (runA (pWho c) d1 i).ow=Q at K hA
   have z1:(c.what==1)=false:=by rw[hk];rfl
   have z2:(c.what==2)=false:=by rw[hk];rfl
   have z3:(c.what==3)=false:=by rw[hk];rfl
   have z4:(c.what==4)=false:=by rw[hk];rfl
   have z5:(c.what==5)=false:=by rw[hk];rfl
   have z6:(c.what==6)=false:=by rw[hk];rfl
   have z7:(c.what==7)=false:=by rw[hk];rfl
   have z8:(c.what==8)=false:=by rw[hk];rfl
   have z9:(c.what==9)=true:=by rw[hk];rfl
   have zn:(c.what != 1)=true:=by rw[hk];rfl
   clear eB hk r1 r2 r3
   go_wp2_with (go_at_call 172;refine K.mono ?_;clear K;rintro e w5 ⟨rfl,hj5⟩;obtain⟨F5,h5,hn5⟩:=hj5.ex;have b5:=hj5.bt;have ab5:=ab.but b5 n2;obtain⟨a0,a1,a2,a3,a4,af0,af1,af2,af3,af4⟩:=id ab5)
   exact bodyPost_ret (v:=.tuple #[anV ⟨(0,0),0,Q,[]⟩ (.slice none 0 0),E]) (by simp[results,Tryz.results117,go_sem,((ab5.set3 (.string Q)).all (.int .i64 0) (.int .i64 0) (.int .i64 0) (.string Q) (.slice none 0 0)).c0,((ab5.set3 (.string Q)).all (.int .i64 0) (.int .i64 0) (.int .i64 0) (.string Q) (.slice none 0 0)).c1,((ab5.set3 (.string Q)).all (.int .i64 0) (.int .i64 0) (.int .i64 0) (.string Q) (.slice none 0 0)).c2,((ab5.set3 (.string Q)).all (.int .i64 0) (.int .i64 0) (.int .i64 0) (.string Q) (.slice none 0 0)).c3,((ab5.set3 (.string Q)).all (.int .i64 0) (.int .i64 0) (.int .i64 0) (.string Q) (.slice none 0 0)).c4]) rfl ⟨.slice none 0 0,by rw[hA.out,E1.out],F5,(FH.out h5 hn5 b5 (but_5 _ (but_st _ (But.refl _ _) 3 _) _ _ _ _ _)).1,(FH.out h5 hn5 b5 (but_5 _ (but_st _ (But.refl _ _) 3 _) _ _ _ _ _)).2.1,(FH.out h5 hn5 b5 (but_5 _ (but_st _ (But.refl _ _) 3 _) _ _ _ _ _)).2.2,by rw[hA.out];exact World.ownsRow_nil _ _ _ _,fun j hj=>by cases hj⟩
end
end Go.Proofs.YtcjdoeclblhaeaaGreatDoor.Pa
