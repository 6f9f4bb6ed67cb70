/- -/
import Derived.Test.YtmghmpclmphccaaGreatDoorGHtOpen
set_option maxHeartbeats 8000000
set_option maxRecDepth 100000
namespace Go.Proofs.YtmghmpclmphccaaGreatDoor.Pa
open Go.RowKit Go.Maps Vs
variable{c0 c1 c2 c3 c5 c6 c7 c8 c9 c10 c11 c19 c20 c21 Bg c23 c24 c25 JY JZ c28 c29 AV c31 c32 Ai c34 Aj Ak c37 Am Ap c40 zT zU Aq Ar Aw c46 Az AA c49 zV c51 Ah c53 Bh Bj Bl Bo Bq c59 Bv Bz BA BD c64 BF BG BH BI BJ c70 BK c72 BL BM c75 c76 BN BO CS c80 CU CV CW CX c85 CY c87 JA JB JC c91 JD c93 JE JF JG JH JI JJ pK pO pR pU pV c105 pX c107 sS c109 sU sV sZ tq tu tC c116 c117 tH c119 tJ tK tN tV c124 tX tY c127 tZ uf c130 c131 ug uh uj um uo uq c138 c139 uy c141 uz c143 uD c145 c146 uF c148 uG uH uI c152 uJ c154 uK c156 c157 uM c159 c160 uN c162 uO c164 uP uQ c167 c168 uS uT c171 uU c173 uV c175 uX uY uZ vg vk vw c182 c183 vC vF vG vH vI vJ vK vM vN c193 c194 vO c196 vP c198 vS vT c201 vU c203 vV vW c206 vX c208 vY c210 vZ c212 c213 wo wu wC wE c218 wF wG wH c222 wI wJ wK c226 c227 c228 c229 wL wM c232 c233 c234 wO c236 wP wQ wR wS wU wV wW jh ji jk jl jm jo jq jr jv jw jy jA jB jC jD jE jF jG jH jI jJ jK jL jM jO jP jQ jR jS jT jU jV jW jX jY jZ ku kC kD kE kF kG kH kJ kK kL kM kQ kR kT kU kV kW kX kY kZ lq lu lC lF lG lI lJ lK lN lQ lS lT lU lV lX lY lZ l7 l9 mg mD mF mG mJ mM mO mP mQ mV mW mX mY mZ ng ni ny nC nG nI nJ nK nN nO nP nR nS nT nU nV nX nY nZ og oh oq oC oD oG oH oI oJ oK oL oM oN oO oP oQ oU oV oW oZ pq pF pG pI c13 c14 c15 c16 c17 c18:Value}
theorem adi {T:Td}(V:aG T){K2 X:Nat->Prop}{k m m1 m3 m4 H bs bp:Nat}{d:Dk}{S:Ses}{p1 p3 p4:Option Addr}{e1:List Dt}{A:List Int}{P:List Bur.Sp}{x:Hs}{kv:Int}{w w2:World}{Q:Exit->Act->World->Prop}
  (en:En w) (hlt60:k<60) (hm:m<=4*k+10) (hxo:LU x) (gx:Gx k m d S (e1.map (·.x)) A P) (ts2:Ts T K2 X w w2 H d S bp (.slice p1 e1.length m1) (.slice p3 A.length m3) (.slice p4 P.length m4) e1 A P) (sb2:Hb w2 bs x) (hKs2:K2 bs) (F:Fnd e1 x.who e1.length kv) (w1:¬(0<=x.what/\x.what<=5)) (hq:x.n.tmod 2≠0)
  (hQ:∀{ex:Exit} {d':Dk} {S':Ses} {v1' v3' v4':Value} {e1':List Dt} {A':List Int} {P':List Bur.Sp} {K' X':Nat->Prop} {w':World} {d20 d21 d22 d23 d24 d25 d26 d27 d28 d29 d30 ET EU EW EX EY EZ E8 Fa Fe Fg Fh Fj Fp Fq Fv FB FC FD FK FM FN FP FQ FT FU FV FW FX FY FZ F6 F7 F9 Gf Gg Gh Gi Gj Gm Gn Gp Gs Gu Gw Gy Gz GI GK GL GN GR GU GV GX GY GZ G5 G6 G7 G8 G9 He Hg Ho Hq Hr Ht Hu Hw Hy HY H6 H7 H8 H9 Ia Ib Ic Ie Ig Ih Ii Ij Ik Il Io Ip Iq Ir Iu Iw Iy Iz IB IC IE IG IJ IK IL IQ IU IV IW IX IY IZ I4 I5 I7 I8 I9 Ja Jb Jc Jd Je Jf Jg Jh Ji Jj Jk Jl Jm Jo Jp Jq Jr Js Jt Ju Jv Jw Jy Jz:Value},(ex=.normal \/ ex=.exit 1)->Gx (k+1) (m+4) d' S' (e1'.map (·.x)) A' P'->Ts T K' X' w w' H d' S' bp v1' v3' v4' e1' A' P'->Q ex ⟨#[c0,c1,c2,c3,.pointer (some ⟨H,0,none⟩),c5,c6,c7,c8,c9,c10,c11,.pointer (some ⟨bp,0,none⟩),v1',v3',v4',.int .i64 (k:Int),.pointer (some ⟨bs,0,none⟩),.int .i64 kv,c19,d20,d21,d22,d23,d24,d25,d26,d27,d28,d29,d30,c31,c32,Ai,c34,Aj,Ak,c37,Am,Ap,c40,zT,zU,Aq,Ar,Aw,c46,Az,AA,c49,zV,c51,Ah,c53,Bh,Bj,Bl,Bo,Bq,c59,Bv,Bz,BA,BD,c64,BF,BG,BH,BI,BJ,c70,BK,c72,BL,BM,c75,c76,BN,BO,CS,c80,CU,CV,CW,CX,c85,CY,c87,JA,JB,JC,c91,JD,c93,JE,JF,JG,JH,JI,JJ,pK,pO,pR,pU,pV,c105,pX,c107,ET,EU,EW,EX,EY,EZ,E8,Fa,Fe,Fg,Fh,Fj,Fp,Fq,Fv,FB,FC,FD,FK,FM,FN,FP,FQ,FT,FU,FV,FW,FX,FY,FZ,F6,F7,F9,Gf,Gg,Gh,Gi,Gj,Gm,Gn,Gp,Gs,Gu,Gw,Gy,Gz,GI,GK,GL,GN,GR,GU,GV,GX,GY,GZ,G5,G6,G7,G8,G9,He,Hg,Ho,Hq,Hr,Ht,Hu,Hw,Hy,HY,H6,H7,H8,H9,Ia,Ib,Ic,Ie,Ig,Ih,Ii,Ij,Ik,Il,Io,Ip,Iq,Ir,Iu,Iw,Iy,Iz,IB,IC,IE,IG,IJ,IK,IL,IQ,IU,IV,IW,IX,IY,IZ,I4,I5,I7,I8,I9,Ja,Jb,Jc,Jd,Je,Jf,Jg,Jh,Ji,Jj,Jk,Jl,Jm,Jo,Jp,Jq,Jr,Js,Jt,Ju,Jv,Jw,Jy,Jz,jh,ji,jk,jl,jm,jo,jq,jr,jv,jw,jy,jA,jB,jC,jD,jE,jF,jG,jH,jI,jJ,jK,jL,jM,jO,jP,jQ,jR,jS,jT,jU,jV,jW,jX,jY,jZ,ku,kC,kD,kE,kF,kG,kH,kJ,kK,kL,kM,kQ,kR,kT,kU,kV,kW,kX,kY,kZ,lq,lu,lC,lF,lG,lI,lJ,lK,lN,lQ,lS,lT,lU,lV,lX,lY,lZ,l7,l9,mg,mD,mF,mG,mJ,mM,mO,mP,mQ,mV,mW,mX,mY,mZ,ng,ni,ny,nC,nG,nI,nJ,nK,nN,nO,nP,nR,nS,nT,nU,nV,nX,nY,nZ,og,oh,oq,oC,oD,oG,oH,oI,oJ,oK,oL,oM,oN,oO,oP,oQ,oU,oV,oW,oZ,pq,pF,pG,pI],[]⟩ w') :
  Code.wp Tryz.prog (dW 3 (Yn (Tryz.f4.body.getD .skip))) Q ⟨#[c0,c1,c2,c3,.pointer (some ⟨H,0,none⟩),c5,c6,c7,c8,c9,c10,c11,.pointer (some ⟨bp,0,none⟩),.slice p1 e1.length m1,.slice p3 A.length m3,.slice p4 P.length m4,.int .i64 (k:Int),.pointer (some ⟨bs,0,none⟩),.int .i64 kv,c19,c20,c21,Bg,c23,c24,c25,JY,JZ,c28,c29,AV,c31,c32,Ai,c34,Aj,Ak,c37,Am,Ap,c40,zT,zU,Aq,Ar,Aw,c46,Az,AA,c49,zV,c51,Ah,c53,Bh,Bj,Bl,Bo,Bq,c59,Bv,Bz,BA,BD,c64,BF,BG,BH,BI,BJ,c70,BK,c72,BL,BM,c75,c76,BN,BO,CS,c80,CU,CV,CW,CX,c85,CY,c87,JA,JB,JC,c91,JD,c93,JE,JF,JG,JH,JI,JJ,pK,pO,pR,pU,pV,c105,pX,c107,sS,c109,sU,sV,sZ,tq,tu,tC,c116,c117,tH,c119,tJ,tK,tN,tV,c124,tX,tY,c127,tZ,uf,c130,c131,ug,uh,uj,um,uo,uq,c138,c139,uy,c141,uz,c143,uD,c145,c146,uF,c148,uG,uH,uI,c152,uJ,c154,uK,c156,c157,uM,c159,c160,uN,c162,uO,c164,uP,uQ,c167,c168,uS,uT,c171,uU,c173,uV,c175,uX,uY,uZ,vg,vk,vw,c182,c183,vC,vF,vG,vH,vI,vJ,vK,vM,vN,c193,c194,vO,c196,vP,c198,vS,vT,c201,vU,c203,vV,vW,c206,vX,c208,vY,c210,vZ,c212,c213,wo,wu,wC,wE,c218,wF,wG,wH,c222,wI,wJ,wK,c226,c227,c228,c229,wL,wM,c232,c233,c234,wO,c236,wP,wQ,wR,wS,wU,wV,wW,jh,ji,jk,jl,jm,jo,jq,jr,jv,jw,jy,jA,jB,jC,jD,jE,jF,jG,jH,jI,jJ,jK,jL,jM,jO,jP,jQ,jR,jS,jT,jU,jV,jW,jX,jY,jZ,ku,kC,kD,kE,kF,kG,kH,kJ,kK,kL,kM,kQ,kR,kT,kU,kV,kW,kX,kY,kZ,lq,lu,lC,lF,lG,lI,lJ,lK,lN,lQ,lS,lT,lU,lV,lX,lY,lZ,l7,l9,mg,mD,mF,mG,mJ,mM,mO,mP,mQ,mV,mW,mX,mY,mZ,ng,ni,ny,nC,nG,nI,nJ,nK,nN,nO,nP,nR,nS,nT,nU,nV,nX,nY,nZ,og,oh,oq,oC,oD,oG,oH,oI,oJ,oK,oL,oM,oN,oO,oP,oQ,oU,oV,oW,oZ,pq,pF,pG,pI],[]⟩ w2:=by
 conv=>arg 2;whnf
 have cz0:=sb2 0 _ rfl
 have cz1:=sb2 1 _ rfl
 have cz2:=sb2 2 _ rfl
 have cz3:=sb2 3 _ rfl
 have cz4:=sb2 4 _ rfl
 have cz5:=sb2 5 _ rfl
 have cz6:=sb2 6 _ rfl
 have cz7:=sb2 7 _ rfl
 have cz8:=sb2 8 _ rfl
 have cz9:=sb2 9 _ rfl
 have eq0:(x.what==0)=false:=by simp;omega
 have eq1:(x.what==1)=false:=by simp;omega
 have eq2:(x.what==2)=false:=by simp;omega
 have eq3:(x.what==3)=false:=by simp;omega
 have eq4:(x.what==4)=false:=by simp;omega
 have eq5:(x.what==5)=false:=by simp;omega
 clear w1
 rcases F with ⟨rfl,hno⟩|⟨j,y,hj,hy,hyw,rfl⟩
 ·clear hno
  go_wp2
  exact hQ (by first|exact .inl rfl|exact .inr rfl) (gx.more) ts2
 ·have hj':(j:Int)<(e1.length:Int):=by omega
  have hj0:decide ((j:Int)<0)=false:=by simp
  have hym:=List.mem_of_getElem? hy
  have hyx:(e1.map (·.x))[j]? = some y.x:=by rw[List.getElem?_map,hy];rfl
  obtain⟨⟨yw,ytd⟩,va,vb,us⟩:=y
  have hyw':yw=x.who:=hyw
  subst hyw'
  have gq:(x.n.tmod 2==0)=false:=by simpa using hq
  clear hq
  obtain⟨gf,gt⟩:=gx.ask hyx cGa (.inl rfl)
  simp only at gf gt
  have hb7:=aj (ah w2) (.cells #[.int .i64 7,.string { data:=#[120] },.int .i64 0,.int .i64 26,.int .i64 0,.int .i64 0,.string { data:=#[111] }] 33)
  have o1:=(sb2.step hb7) 1 _ rfl
  have o2:=(sb2.step hb7) 2 _ rfl
  have o7:=(sb2.step hb7) 7 _ rfl
  obtain⟨o8,o9⟩:=ts2.pz.step hb7
  obtain⟨wB,hwB⟩:∃wB,wB=w2.alloc (.cells #[.int .i64 7,.string { data:=#[120] },.int .i64 0,.int .i64 26,.int .i64 0,.int .i64 0,.string { data:=#[111] }] 33):=⟨_,rfl⟩
  have hbB:Below w2.heap.size w2 wB:=by rw[hwB];exact aj (ah w2) _
  have cb0:∀(i:Nat) (v:Value),(cZ cGa)[i]? = some v->wB.cell? ⟨w2.heap.size,i,none⟩=some v:=by rw[hwB];exact wY _ _ _ _ _ _ _ _ _ _ rfl
  have tsB:=ts2.freeze V hbB
  have sbB:=sb2.step hbB
  have hKsB:Kn K2 w2 wB bs:=.inl hKs2
  have hXc:Kn X w2 wB w2.heap.size:=.inr ⟨Nat.le_refl _,World.block_lt_of_cell? _ _ (cb0 0 _ rfl)⟩
  obtain⟨bc,hbc⟩:∃bc,bc=w2.heap.size:=⟨_,rfl⟩
  rw[<- hbc] at cb0 hXc
  generalize Kn K2 w2 wB=KB at tsB hKsB
  generalize Kn X w2 wB=XB at tsB hXc
  have PZ:=ts2.pz
  obtain⟨pz0,pz1⟩:=PZ
  go_upto_region 28 with fail
  rw[<- hwB]
  rw[<- hbc]
  obtain⟨wy,rfl⟩:∃wy,wy=wB:=⟨wB,rfl⟩
  clear hwB hbc hbB ts2 sb2 hKs2 pz0 pz1 hb7 o1 o2 o7 o8 o9 cz0 cz1 cz2 cz3 cz4 cz5 cz6 cz7 cz8 cz9
  have P1:=tsB.h.ask V x.who cGa gx.hz.dp (by omega) hxo.who
  have y1:=sbB 1 _ rfl
  have q0:=cb0 0 _ rfl
  have q1:=cb0 1 _ rfl
  have q2:=cb0 2 _ rfl
  have q3:=cb0 3 _ rfl
  have q4:=cb0 4 _ rfl
  have q5:=cb0 5 _ rfl
  have q6:=cb0 6 _ rfl
  by_cases hf:haF d S x.who cGa=0
  ·have gx2:=gt hf
   rw[hf,aB] at P1
   generalize haA d S x.who cGa=ta at P1 gx2
   generalize haD d S x.who cGa=d6 at P1 gx2
   clear gf gt hf
   go_upto_region 30 with (go_at_call 11;refine P1.mono ?_;clear P1;rintro e w3 ⟨u,rfl,rowu,h3,hb3⟩;obtain⟨pu,cu,rfl⟩:=aA rowu;have ts3:=tsB.ans h3 hb3 (fun i hi=>(bV rowu hi).1);have fzu:Fz (fun i=>XB i \/ (Value.slice pu ta.l.length cu).ownBlock=some i) w3 31 2 (.slice pu ta.l.length cu) ta.l.length (pfV ta.l):=⟨bK (Nat.zero_le _) rowu,fun i hi=>.inr hi⟩;have cb3:∀(i:Nat) (v:Value),(cZ cGa)[i]? = some v->w3.cell? ⟨bc,i,none⟩=some v:=(fun i v hv=>(hb3.cell (p:=⟨bc,i,none⟩) (World.block_lt_of_cell? _ _ (cb0 i v hv)) (fun g=>g (tsB.xk _ hXc))).trans (cb0 i v hv));clear tsB h3 hb3 rowu q0 q1 q2 q3 q4 q5 q6 y1)
   have hb4:=aj (ah w3) (.cells #[.int .i64 ta.p.1,.int .i64 ta.p.2,.int .i64 ta.ad,.string ta.ow,.slice pu ta.l.length cu] 46)
   have ab0:∀(i:Nat) (v:Value),(pJ ((cGa,ta),.slice pu ta.l.length cu))[i]? = some v->(w3.alloc (.cells #[.int .i64 ta.p.1,.int .i64 ta.p.2,.int .i64 ta.ad,.string ta.ow,.slice pu ta.l.length cu] 46)).cell? ⟨w3.heap.size,i,none⟩=some v:=rH _ _ _ _ _ _ _ _ rfl
   obtain⟨w4,hw4⟩:∃w4,w4=w3.alloc (.cells #[.int .i64 ta.p.1,.int .i64 ta.p.2,.int .i64 ta.ad,.string ta.ow,.slice pu ta.l.length cu] 46):=⟨_,rfl⟩
   obtain⟨bx,hbx⟩:∃bx,bx=w3.heap.size:=⟨_,rfl⟩
   rw[<- hw4] at hb4 ab0 ⊢
   rw[<- hbx] at ab0 ⊢
   have ts4:=ts3.kn V hb4
   have fz4:=fzu.but (E:=fun _=>False) (X':=fun i=>XB i \/ (Value.slice pu ta.l.length cu).ownBlock=some i) (.below hb4) (fun _ _=>id) (fun _ _ g=>g)
   have cb4:∀(i:Nat) (v:Value),(cZ cGa)[i]? = some v->w4.cell? ⟨bc,i,none⟩=some v:=fun i v hv=>(hb4.cell (p:=⟨bc,i,none⟩) (World.block_lt_of_cell? _ _ (cb3 i v hv))).trans (cb3 i v hv)
   generalize (fun i=>XB i \/ (Value.slice pu ta.l.length cu).ownBlock=some i)=X4 at ts4 fz4
   generalize Kn (fun j=>KB j \/ (Value.slice pu ta.l.length cu).ownBlock=some j) w3 w4=K4 at ts4
   clear hw4 hb4 ts3 fzu cb3 cb0 hbx
   have hbcl:bc<w4.heap.size:=World.block_lt_of_cell? _ _ (cb4 0 _ rfl)
   have hbxl:bx<w4.heap.size:=World.block_lt_of_cell? _ _ (ab0 0 _ rfl)
   obtain⟨g,eg,hgl,hKg,b0,b1,b2,b3,b4⟩:=ts4.r1.at hy
   cases eg
   have dq:=ts4.r1.each _ hym
   simp only at b0 b1 b2 b3 b4
   have dqa:Fz X4 w4 33 7 va ytd.length ((ytd.map Prod.fst).flatMap cZ):=dq.a
   have dqb:Fz X4 w4 46 5 vb ytd.length ((ytd.zip us).flatMap pJ):=dq.b
   have dqo:=OH dq
   have hfr:∀i,w4.frozen? ⟨g,i,none⟩=false:=fun i=>ts4.r1.row.frozenAt i
   have htd':ytd.length<=60:=by
    have h1:=gx.cnt
    have h2:=Xo (op:=e1.map (·.x)) hyx
    simp only at h2
    omega
   have hw4:=ts4.h.bl.size
   simp only at dqo
   go_wp2_with (first
    | (at_builtin;have own7':=own7;refine aJ 37 46 5 64 _ Tryz.underlying37 NU rfl (by decide) (by decide) rfl _ _ rfl w6.heap.size _ ytd.length ((ytd.zip us).flatMap pJ) rfl (own7.alloc _) (by simp;omega) w7.heap.size (pJ ((cGa,ta),.slice pu ta.l.length cu)) rfl rfl (rH _ _ _ _ _ _ _ _ rfl) (Ku _ _ _ _) (by omega) ?_;intro t8 w8 own8 hg8 hat8;obtain⟨pT,cT,rfl,-⟩:=aP own8;have hb8:Below w6.heap.size w6 w8:=(hb7.alloc (by omega) _).grown hg8 (by simp;omega) (fun k e=>(own7.lt k e).1);have hball:=ak hb6 hb8;have q2:=(hball.cell (p:=⟨g,j*5+2,none⟩) hgl).trans b2;have q3:=(hball.cell (p:=⟨g,j*5+3,none⟩) hgl).trans b3;have f2:=(hball.frozen (p:=⟨g,j*5+2,none⟩) hgl).trans (hfr _);have f3:=(hball.frozen (p:=⟨g,j*5+3,none⟩) hgl).trans (hfr _))
    | (at_builtin;have own6':=own6;refine bY 37 46 5 64 _ Tryz.underlying37 NU rfl (by decide) (by decide) rfl _ _ rfl w6.heap.size _ 0 [] rfl (World.ownsRow_nil _ _ _ _) (Nat.le_refl _) 0 _ ytd.length ((ytd.zip us).flatMap pJ) rfl (own_below dqb.1 hb6) dqo (by omega) ?_;intro t7 w7 own7 hg7 hat7;rw[List.nil_append,Nat.zero_add] at own7;have hb7:Below w6.heap.size w6 w7:=(ah w6).grown hg7 (Nat.le_refl _) (fun k e=>by cases e);have hs7:=hb7.size;have hb67:=ak hb6 hb7;have a0:=(hb67.cell (p:=⟨bx,0,none⟩) hbxl).trans (ab0 0 _ rfl);have a1:=(hb67.cell (p:=⟨bx,1,none⟩) hbxl).trans (ab0 1 _ rfl);have a2:=(hb67.cell (p:=⟨bx,2,none⟩) hbxl).trans (ab0 2 _ rfl);have a3:=(hb67.cell (p:=⟨bx,3,none⟩) hbxl).trans (ab0 3 _ rfl);have a4:=(hb67.cell (p:=⟨bx,4,none⟩) hbxl).trans (ab0 4 _ rfl))
    | (at_builtin;have own5':=own5;refine aJ 36 33 7 72 _ Tryz.underlying36 NJ rfl (by decide) (by decide) rfl _ _ rfl w4.heap.size _ ytd.length ((ytd.map Prod.fst).flatMap cZ) rfl (own5.alloc _) (by simp;omega) w5.heap.size (cZ cGa) rfl rfl (wY _ _ _ _ _ _ _ _ _ _ rfl) (Kv cGa) (by omega) ?_;intro s6 w6 own6 hg6 hat6;obtain⟨pS,cS,rfl,-⟩:=aP own6;have hb6:Below w4.heap.size w4 w6:=(hb5.alloc (by omega) _).grown hg6 (by simp;omega) (fun k e=>(own5.lt k e).1);have r3:=(hb6.cell (p:=⟨g,j*5+3,none⟩) hgl).trans b3)
    | (at_builtin;refine bY 36 33 7 72 _ Tryz.underlying36 NJ rfl (by decide) (by decide) rfl _ _ rfl w4.heap.size _ 0 [] rfl (World.ownsRow_nil _ _ _ _) (Nat.le_refl _) 0 _ ytd.length ((ytd.map Prod.fst).flatMap cZ) rfl dqa.1 (Ep _) (by omega) ?_;intro s5 w5 own5 hg5 hat5;rw[List.nil_append,Nat.zero_add] at own5;have hb5:Below w4.heap.size w4 w5:=(ah w4).grown hg5 (Nat.le_refl _) (fun k e=>by cases e);have hs5:=hb5.size;have n0:=(hb5.cell (p:=⟨bc,0,none⟩) hbcl).trans (cb4 0 _ rfl);have n1:=(hb5.cell (p:=⟨bc,1,none⟩) hbcl).trans (cb4 1 _ rfl);have n2:=(hb5.cell (p:=⟨bc,2,none⟩) hbcl).trans (cb4 2 _ rfl);have n3:=(hb5.cell (p:=⟨bc,3,none⟩) hbcl).trans (cb4 3 _ rfl);have n4:=(hb5.cell (p:=⟨bc,4,none⟩) hbcl).trans (cb4 4 _ rfl);have n5:=(hb5.cell (p:=⟨bc,5,none⟩) hbcl).trans (cb4 5 _ rfl);have n6:=(hb5.cell (p:=⟨bc,6,none⟩) hbcl).trans (cb4 6 _ rfl)))
   have ts5:=ts4.freeze V hball
   have hs8:=hb8.size
   have hs6:=hb6.size
   have hDq:yP (Kn X4 w4 w8) w8 ⟨⟨x.who,ytd ++ [(cGa,ta)]⟩,.slice pS (ytd.length+1) cS,.slice pT (ytd.length+1) cT,us ++ [.slice pu ta.l.length cu]⟩:=by
    have hum:us.length=ytd.length:=dq.m
    refine⟨⟨?_,fun i hi=>?_⟩,⟨?_,fun i hi=>?_⟩,fun i t u h1 h2=>?_,?_,?_⟩
    ·have:=bK (Nat.zero_le _) (own_below own6 hb8)
     simpa using this
    ·exact .inr ⟨(bV own6 hi).1,Nat.lt_of_lt_of_le (bV own6 hi).2 hb8.size⟩
    ·have:=bK (Nat.zero_le _) own8
     show w8.ownsRow 0 _ 5 _ (ytd ++ [(cGa,ta)]).length (((ytd ++ [(cGa,ta)]).zip (us ++ [.slice pu ta.l.length cu])).flatMap pJ)
     rw[List.zip_append hum.symm]
     simpa using this
    ·have:=bV own8 hi
     exact .inr ⟨by omega,by omega⟩
    ·simp only at h1 h2
     have hF:Fz (Kn X4 w4 w8) w8 31 2 (.slice pu ta.l.length cu) ta.l.length (pfV ta.l):=fz4.but (E:=fun _=>False) (.below hball) (fun _ _=>id) (fun _ _ g=>.inl g)
     rw[List.getElem?_append] at h1 h2
     rw[hum] at h2
     split at h1
     ·rename_i c
      rw[if_pos c] at h2
      exact (dq.u i t u h1 h2).but (E:=fun _=>False) (.below hball) (fun _ _=>id) (fun _ _ g=>.inl g)
     ·rename_i c
      rw[if_neg c] at h2
      have h0:i - ytd.length=0:=by
       have:=(List.getElem?_eq_some_iff.1 h1).1
       simp at this;omega
      rw[h0] at h1 h2
      simp at h1 h2
      rw[<- h1,<- h2]
      exact hF
    ·show (ytd ++ [_]).length<=1000
     rw[List.length_append];simp only [List.length_singleton];omega
    ·show (us ++ [_]).length=(ytd ++ [_]).length
     rw[List.length_append,List.length_append,hum];rfl
   have ts6:=ts5.put V en (x:=⟨x.who,ytd ++ [(cGa,ta)]⟩) (us:=us ++ [.slice pu ta.l.length cu]) hy rfl hDq
   refine hQ (by first|exact .inl rfl|exact .inr rfl) ?_ ts6
   rw[List.map_set]
   exact gx2
  ·have gx2:=gf hf
   rw[ay hf] at P1
   generalize haA d S x.who cGa=ta at P1
   generalize haD d S x.who cGa=d6 at P1 gx2
   clear gf gt hf
   go_wp2_with fail
   refine P1.mono ?_
   clear P1
   rintro e w3 ⟨u,rfl,rowu,h3,hb3⟩
   obtain⟨pu,cu,rfl⟩:=aA rowu
   have ts3:=tsB.ans h3 hb3 (fun i hi=>(bV rowu hi).1)
   have ts4:=ts3.kn V (aj (ah w3) (.cells #[.int .i64 ta.p.1,.int .i64 ta.p.2,.int .i64 ta.ad,.string ta.ow,.slice pu ta.l.length cu] 46))
   clear h3 hb3 rowu tsB ts3
   go_wp2
   exact hQ (by first|exact .inl rfl|exact .inr rfl) gx2 ts4
theorem WE {T:Td}(V:aG T){K2 X:Nat->Prop}{k m m1 m3 m4 H bs bp:Nat}{d:Dk}{S:Ses}{p1 p3 p4:Option Addr}{e1:List Dt}{A:List Int}{P:List Bur.Sp}{x:Hs}{kv:Int}{w w2:World}{Q:Exit->Act->World->Prop}
  (en:En w) (hlt60:k<60) (hm:m<=4*k+10) (hxo:LU x) (gx:Gx k m d S (e1.map (·.x)) A P) (ts2:Ts T K2 X w w2 H d S bp (.slice p1 e1.length m1) (.slice p3 A.length m3) (.slice p4 P.length m4) e1 A P) (sb2:Hb w2 bs x) (hKs2:K2 bs) (F:Fnd e1 x.who e1.length kv) (w1:¬(0<=x.what/\x.what<=5)) (hq:x.n.tmod 2=0)
  (hQ:∀{ex:Exit} {d':Dk} {S':Ses} {v1' v3' v4':Value} {e1':List Dt} {A':List Int} {P':List Bur.Sp} {K' X':Nat->Prop} {w':World} {d20 d21 d22 d23 d24 d25 d26 d27 d28 d29 d30 ET EU EW EX EY EZ E8 Fa Fe Fg Fh Fj Fp Fq Fv FB FC FD FK FM FN FP FQ FT FU FV FW FX FY FZ F6 F7 F9 Gf Gg Gh Gi Gj Gm Gn Gp Gs Gu Gw Gy Gz GI GK GL GN GR GU GV GX GY GZ G5 G6 G7 G8 G9 He Hg Ho Hq Hr Ht Hu Hw Hy HY H6 H7 H8 H9 Ia Ib Ic Ie Ig Ih Ii Ij Ik Il Io Ip Iq Ir Iu Iw Iy Iz IB IC IE IG IJ IK IL IQ IU IV IW IX IY IZ I4 I5 I7 I8 I9 Ja Jb Jc Jd Je Jf Jg Jh Ji Jj Jk Jl Jm Jo Jp Jq Jr Js Jt Ju Jv Jw Jy Jz:Value},(ex=.normal \/ ex=.exit 1)->Gx (k+1) (m+4) d' S' (e1'.map (·.x)) A' P'->Ts T K' X' w w' H d' S' bp v1' v3' v4' e1' A' P'->Q ex ⟨#[c0,c1,c2,c3,.pointer (some ⟨H,0,none⟩),c5,c6,c7,c8,c9,c10,c11,.pointer (some ⟨bp,0,none⟩),v1',v3',v4',.int .i64 (k:Int),.pointer (some ⟨bs,0,none⟩),.int .i64 kv,c19,d20,d21,d22,d23,d24,d25,d26,d27,d28,d29,d30,c31,c32,Ai,c34,Aj,Ak,c37,Am,Ap,c40,zT,zU,Aq,Ar,Aw,c46,Az,AA,c49,zV,c51,Ah,c53,Bh,Bj,Bl,Bo,Bq,c59,Bv,Bz,BA,BD,c64,BF,BG,BH,BI,BJ,c70,BK,c72,BL,BM,c75,c76,BN,BO,CS,c80,CU,CV,CW,CX,c85,CY,c87,JA,JB,JC,c91,JD,c93,JE,JF,JG,JH,JI,JJ,pK,pO,pR,pU,pV,c105,pX,c107,ET,EU,EW,EX,EY,EZ,E8,Fa,Fe,Fg,Fh,Fj,Fp,Fq,Fv,FB,FC,FD,FK,FM,FN,FP,FQ,FT,FU,FV,FW,FX,FY,FZ,F6,F7,F9,Gf,Gg,Gh,Gi,Gj,Gm,Gn,Gp,Gs,Gu,Gw,Gy,Gz,GI,GK,GL,GN,GR,GU,GV,GX,GY,GZ,G5,G6,G7,G8,G9,He,Hg,Ho,Hq,Hr,Ht,Hu,Hw,Hy,HY,H6,H7,H8,H9,Ia,Ib,Ic,Ie,Ig,Ih,Ii,Ij,Ik,Il,Io,Ip,Iq,Ir,Iu,Iw,Iy,Iz,IB,IC,IE,IG,IJ,IK,IL,IQ,IU,IV,IW,IX,IY,IZ,I4,I5,I7,I8,I9,Ja,Jb,Jc,Jd,Je,Jf,Jg,Jh,Ji,Jj,Jk,Jl,Jm,Jo,Jp,Jq,Jr,Js,Jt,Ju,Jv,Jw,Jy,Jz,jh,ji,jk,jl,jm,jo,jq,jr,jv,jw,jy,jA,jB,jC,jD,jE,jF,jG,jH,jI,jJ,jK,jL,jM,jO,jP,jQ,jR,jS,jT,jU,jV,jW,jX,jY,jZ,ku,kC,kD,kE,kF,kG,kH,kJ,kK,kL,kM,kQ,kR,kT,kU,kV,kW,kX,kY,kZ,lq,lu,lC,lF,lG,lI,lJ,lK,lN,lQ,lS,lT,lU,lV,lX,lY,lZ,l7,l9,mg,mD,mF,mG,mJ,mM,mO,mP,mQ,mV,mW,mX,mY,mZ,ng,ni,ny,nC,nG,nI,nJ,nK,nN,nO,nP,nR,nS,nT,nU,nV,nX,nY,nZ,og,oh,oq,oC,oD,oG,oH,oI,oJ,oK,oL,oM,oN,oO,oP,oQ,oU,oV,oW,oZ,pq,pF,pG,pI],[]⟩ w') :
  Code.wp Tryz.prog (dW 3 (Yn (Tryz.f4.body.getD .skip))) Q ⟨#[c0,c1,c2,c3,.pointer (some ⟨H,0,none⟩),c5,c6,c7,c8,c9,c10,c11,.pointer (some ⟨bp,0,none⟩),.slice p1 e1.length m1,.slice p3 A.length m3,.slice p4 P.length m4,.int .i64 (k:Int),.pointer (some ⟨bs,0,none⟩),.int .i64 kv,c19,c20,c21,Bg,c23,c24,c25,JY,JZ,c28,c29,AV,c31,c32,Ai,c34,Aj,Ak,c37,Am,Ap,c40,zT,zU,Aq,Ar,Aw,c46,Az,AA,c49,zV,c51,Ah,c53,Bh,Bj,Bl,Bo,Bq,c59,Bv,Bz,BA,BD,c64,BF,BG,BH,BI,BJ,c70,BK,c72,BL,BM,c75,c76,BN,BO,CS,c80,CU,CV,CW,CX,c85,CY,c87,JA,JB,JC,c91,JD,c93,JE,JF,JG,JH,JI,JJ,pK,pO,pR,pU,pV,c105,pX,c107,sS,c109,sU,sV,sZ,tq,tu,tC,c116,c117,tH,c119,tJ,tK,tN,tV,c124,tX,tY,c127,tZ,uf,c130,c131,ug,uh,uj,um,uo,uq,c138,c139,uy,c141,uz,c143,uD,c145,c146,uF,c148,uG,uH,uI,c152,uJ,c154,uK,c156,c157,uM,c159,c160,uN,c162,uO,c164,uP,uQ,c167,c168,uS,uT,c171,uU,c173,uV,c175,uX,uY,uZ,vg,vk,vw,c182,c183,vC,vF,vG,vH,vI,vJ,vK,vM,vN,c193,c194,vO,c196,vP,c198,vS,vT,c201,vU,c203,vV,vW,c206,vX,c208,vY,c210,vZ,c212,c213,wo,wu,wC,wE,c218,wF,wG,wH,c222,wI,wJ,wK,c226,c227,c228,c229,wL,wM,c232,c233,c234,wO,c236,wP,wQ,wR,wS,wU,wV,wW,jh,ji,jk,jl,jm,jo,jq,jr,jv,jw,jy,jA,jB,jC,jD,jE,jF,jG,jH,jI,jJ,jK,jL,jM,jO,jP,jQ,jR,jS,jT,jU,jV,jW,jX,jY,jZ,ku,kC,kD,kE,kF,kG,kH,kJ,kK,kL,kM,kQ,kR,kT,kU,kV,kW,kX,kY,kZ,lq,lu,lC,lF,lG,lI,lJ,lK,lN,lQ,lS,lT,lU,lV,lX,lY,lZ,l7,l9,mg,mD,mF,mG,mJ,mM,mO,mP,mQ,mV,mW,mX,mY,mZ,ng,ni,ny,nC,nG,nI,nJ,nK,nN,nO,nP,nR,nS,nT,nU,nV,nX,nY,nZ,og,oh,oq,oC,oD,oG,oH,oI,oJ,oK,oL,oM,oN,oO,oP,oQ,oU,oV,oW,oZ,pq,pF,pG,pI],[]⟩ w2:=by
 conv=>arg 2;whnf
 have cz0:=sb2 0 _ rfl
 have cz1:=sb2 1 _ rfl
 have cz2:=sb2 2 _ rfl
 have cz3:=sb2 3 _ rfl
 have cz4:=sb2 4 _ rfl
 have cz5:=sb2 5 _ rfl
 have cz6:=sb2 6 _ rfl
 have cz7:=sb2 7 _ rfl
 have cz8:=sb2 8 _ rfl
 have cz9:=sb2 9 _ rfl
 have eq0:(x.what==0)=false:=by simp;omega
 have eq1:(x.what==1)=false:=by simp;omega
 have eq2:(x.what==2)=false:=by simp;omega
 have eq3:(x.what==3)=false:=by simp;omega
 have eq4:(x.what==4)=false:=by simp;omega
 have eq5:(x.what==5)=false:=by simp;omega
 clear w1
 rcases F with ⟨rfl,hno⟩|⟨j,y,hj,hy,hyw,rfl⟩
 ·clear hno
  go_wp2
  exact hQ (by first|exact .inl rfl|exact .inr rfl) (gx.more) ts2
 ·have hj':(j:Int)<(e1.length:Int):=by omega
  have hj0:decide ((j:Int)<0)=false:=by simp
  have hym:=List.mem_of_getElem? hy
  have hyx:(e1.map (·.x))[j]? = some y.x:=by rw[List.getElem?_map,hy];rfl
  obtain⟨⟨yw,ytd⟩,va,vb,us⟩:=y
  have hyw':yw=x.who:=hyw
  subst hyw'
  have gq:(x.n.tmod 2==0)=true:=by simpa using hq
  clear hq
  obtain⟨gf,gt⟩:=gx.ask hyx (cGp x.c.len) (.inr ⟨x.c.len,rfl⟩)
  simp only at gf gt
  have hb7:=aj (ah w2) (.cells #[.int .i64 7,.string { data:=#[120] },.int .i64 0,.int .i64 26,.int .i64 0,.int .i64 0,.string { data:=#[111] }] 33)
  have o1:=(sb2.step hb7) 1 _ rfl
  have o2:=(sb2.step hb7) 2 _ rfl
  have o7:=(sb2.step hb7) 7 _ rfl
  obtain⟨o8,o9⟩:=ts2.pz.step hb7
  obtain⟨wB,hwB⟩:∃wB,wB=w2.alloc (.cells #[.int .i64 6,.string { data:=#[120] },.int .i64 0,.int .i64 26,.int .i64 x.c.len,.int .i64 0,.string { data:=#[111] }] 33):=⟨_,rfl⟩
  have hbB:Below w2.heap.size w2 wB:=by rw[hwB];exact aj (ah w2) _
  have cb0:∀(i:Nat) (v:Value),(cZ (cGp x.c.len))[i]? = some v->wB.cell? ⟨w2.heap.size,i,none⟩=some v:=by rw[hwB];exact wY _ _ _ _ _ _ _ _ _ _ rfl
  have tsB:=ts2.freeze V hbB
  have sbB:=sb2.step hbB
  have hKsB:Kn K2 w2 wB bs:=.inl hKs2
  have hXc:Kn X w2 wB w2.heap.size:=.inr ⟨Nat.le_refl _,World.block_lt_of_cell? _ _ (cb0 0 _ rfl)⟩
  obtain⟨bc,hbc⟩:∃bc,bc=w2.heap.size:=⟨_,rfl⟩
  rw[<- hbc] at cb0 hXc
  generalize Kn K2 w2 wB=KB at tsB hKsB
  generalize Kn X w2 wB=XB at tsB hXc
  have PZ:=ts2.pz
  obtain⟨pz0,pz1⟩:=PZ
  go_upto_region 28 with fail
  rw[<- hwB]
  rw[<- hbc]
  obtain⟨wy,rfl⟩:∃wy,wy=wB:=⟨wB,rfl⟩
  clear hwB hbc hbB ts2 sb2 hKs2 pz0 pz1 hb7 o1 o2 o7 o8 o9 cz0 cz1 cz2 cz3 cz4 cz5 cz6 cz7 cz8 cz9
  have P1:=tsB.h.ask V x.who (cGp x.c.len) gx.hz.dp (by omega) hxo.who
  have y1:=sbB 1 _ rfl
  have q0:=cb0 0 _ rfl
  have q1:=cb0 1 _ rfl
  have q2:=cb0 2 _ rfl
  have q3:=cb0 3 _ rfl
  have q4:=cb0 4 _ rfl
  have q5:=cb0 5 _ rfl
  have q6:=cb0 6 _ rfl
  by_cases hf:haF d S x.who (cGp x.c.len)=0
  ·have gx2:=gt hf
   rw[hf,aB] at P1
   generalize haA d S x.who (cGp x.c.len)=ta at P1 gx2
   generalize haD d S x.who (cGp x.c.len)=d6 at P1 gx2
   clear gf gt hf
   go_upto_region 30 with (go_at_call 11;refine P1.mono ?_;clear P1;rintro e w3 ⟨u,rfl,rowu,h3,hb3⟩;obtain⟨pu,cu,rfl⟩:=aA rowu;have ts3:=tsB.ans h3 hb3 (fun i hi=>(bV rowu hi).1);have fzu:Fz (fun i=>XB i \/ (Value.slice pu ta.l.length cu).ownBlock=some i) w3 31 2 (.slice pu ta.l.length cu) ta.l.length (pfV ta.l):=⟨bK (Nat.zero_le _) rowu,fun i hi=>.inr hi⟩;have cb3:∀(i:Nat) (v:Value),(cZ (cGp x.c.len))[i]? = some v->w3.cell? ⟨bc,i,none⟩=some v:=(fun i v hv=>(hb3.cell (p:=⟨bc,i,none⟩) (World.block_lt_of_cell? _ _ (cb0 i v hv)) (fun g=>g (tsB.xk _ hXc))).trans (cb0 i v hv));clear tsB h3 hb3 rowu q0 q1 q2 q3 q4 q5 q6 y1)
   have hb4:=aj (ah w3) (.cells #[.int .i64 ta.p.1,.int .i64 ta.p.2,.int .i64 ta.ad,.string ta.ow,.slice pu ta.l.length cu] 46)
   have ab0:∀(i:Nat) (v:Value),(pJ (((cGp x.c.len),ta),.slice pu ta.l.length cu))[i]? = some v->(w3.alloc (.cells #[.int .i64 ta.p.1,.int .i64 ta.p.2,.int .i64 ta.ad,.string ta.ow,.slice pu ta.l.length cu] 46)).cell? ⟨w3.heap.size,i,none⟩=some v:=rH _ _ _ _ _ _ _ _ rfl
   obtain⟨w4,hw4⟩:∃w4,w4=w3.alloc (.cells #[.int .i64 ta.p.1,.int .i64 ta.p.2,.int .i64 ta.ad,.string ta.ow,.slice pu ta.l.length cu] 46):=⟨_,rfl⟩
   obtain⟨bx,hbx⟩:∃bx,bx=w3.heap.size:=⟨_,rfl⟩
   rw[<- hw4] at hb4 ab0 ⊢
   rw[<- hbx] at ab0 ⊢
   have ts4:=ts3.kn V hb4
   have fz4:=fzu.but (E:=fun _=>False) (X':=fun i=>XB i \/ (Value.slice pu ta.l.length cu).ownBlock=some i) (.below hb4) (fun _ _=>id) (fun _ _ g=>g)
   have cb4:∀(i:Nat) (v:Value),(cZ (cGp x.c.len))[i]? = some v->w4.cell? ⟨bc,i,none⟩=some v:=fun i v hv=>(hb4.cell (p:=⟨bc,i,none⟩) (World.block_lt_of_cell? _ _ (cb3 i v hv))).trans (cb3 i v hv)
   generalize (fun i=>XB i \/ (Value.slice pu ta.l.length cu).ownBlock=some i)=X4 at ts4 fz4
   generalize Kn (fun j=>KB j \/ (Value.slice pu ta.l.length cu).ownBlock=some j) w3 w4=K4 at ts4
   clear hw4 hb4 ts3 fzu cb3 cb0 hbx
   have hbcl:bc<w4.heap.size:=World.block_lt_of_cell? _ _ (cb4 0 _ rfl)
   have hbxl:bx<w4.heap.size:=World.block_lt_of_cell? _ _ (ab0 0 _ rfl)
   obtain⟨g,eg,hgl,hKg,b0,b1,b2,b3,b4⟩:=ts4.r1.at hy
   cases eg
   have dq:=ts4.r1.each _ hym
   simp only at b0 b1 b2 b3 b4
   have dqa:Fz X4 w4 33 7 va ytd.length ((ytd.map Prod.fst).flatMap cZ):=dq.a
   have dqb:Fz X4 w4 46 5 vb ytd.length ((ytd.zip us).flatMap pJ):=dq.b
   have dqo:=OH dq
   have hfr:∀i,w4.frozen? ⟨g,i,none⟩=false:=fun i=>ts4.r1.row.frozenAt i
   have htd':ytd.length<=60:=by
    have h1:=gx.cnt
    have h2:=Xo (op:=e1.map (·.x)) hyx
    simp only at h2
    omega
   have hw4:=ts4.h.bl.size
   simp only at dqo
   go_wp2_with (first
    | (at_builtin;have own7':=own7;refine aJ 37 46 5 64 _ Tryz.underlying37 NU rfl (by decide) (by decide) rfl _ _ rfl w6.heap.size _ ytd.length ((ytd.zip us).flatMap pJ) rfl (own7.alloc _) (by simp;omega) w7.heap.size (pJ (((cGp x.c.len),ta),.slice pu ta.l.length cu)) rfl rfl (rH _ _ _ _ _ _ _ _ rfl) (Ku _ _ _ _) (by omega) ?_;intro t8 w8 own8 hg8 hat8;obtain⟨pT,cT,rfl,-⟩:=aP own8;have hb8:Below w6.heap.size w6 w8:=(hb7.alloc (by omega) _).grown hg8 (by simp;omega) (fun k e=>(own7.lt k e).1);have hball:=ak hb6 hb8;have q2:=(hball.cell (p:=⟨g,j*5+2,none⟩) hgl).trans b2;have q3:=(hball.cell (p:=⟨g,j*5+3,none⟩) hgl).trans b3;have f2:=(hball.frozen (p:=⟨g,j*5+2,none⟩) hgl).trans (hfr _);have f3:=(hball.frozen (p:=⟨g,j*5+3,none⟩) hgl).trans (hfr _))
    | (at_builtin;have own6':=own6;refine bY 37 46 5 64 _ Tryz.underlying37 NU rfl (by decide) (by decide) rfl _ _ rfl w6.heap.size _ 0 [] rfl (World.ownsRow_nil _ _ _ _) (Nat.le_refl _) 0 _ ytd.length ((ytd.zip us).flatMap pJ) rfl (own_below dqb.1 hb6) dqo (by omega) ?_;intro t7 w7 own7 hg7 hat7;rw[List.nil_append,Nat.zero_add] at own7;have hb7:Below w6.heap.size w6 w7:=(ah w6).grown hg7 (Nat.le_refl _) (fun k e=>by cases e);have hs7:=hb7.size;have hb67:=ak hb6 hb7;have a0:=(hb67.cell (p:=⟨bx,0,none⟩) hbxl).trans (ab0 0 _ rfl);have a1:=(hb67.cell (p:=⟨bx,1,none⟩) hbxl).trans (ab0 1 _ rfl);have a2:=(hb67.cell (p:=⟨bx,2,none⟩) hbxl).trans (ab0 2 _ rfl);have a3:=(hb67.cell (p:=⟨bx,3,none⟩) hbxl).trans (ab0 3 _ rfl);have a4:=(hb67.cell (p:=⟨bx,4,none⟩) hbxl).trans (ab0 4 _ rfl))
    | (at_builtin;have own5':=own5;refine aJ 36 33 7 72 _ Tryz.underlying36 NJ rfl (by decide) (by decide) rfl _ _ rfl w4.heap.size _ ytd.length ((ytd.map Prod.fst).flatMap cZ) rfl (own5.alloc _) (by simp;omega) w5.heap.size (cZ (cGp x.c.len)) rfl rfl (wY _ _ _ _ _ _ _ _ _ _ rfl) (Kv (cGp x.c.len)) (by omega) ?_;intro s6 w6 own6 hg6 hat6;obtain⟨pS,cS,rfl,-⟩:=aP own6;have hb6:Below w4.heap.size w4 w6:=(hb5.alloc (by omega) _).grown hg6 (by simp;omega) (fun k e=>(own5.lt k e).1);have r3:=(hb6.cell (p:=⟨g,j*5+3,none⟩) hgl).trans b3)
    | (at_builtin;refine bY 36 33 7 72 _ Tryz.underlying36 NJ rfl (by decide) (by decide) rfl _ _ rfl w4.heap.size _ 0 [] rfl (World.ownsRow_nil _ _ _ _) (Nat.le_refl _) 0 _ ytd.length ((ytd.map Prod.fst).flatMap cZ) rfl dqa.1 (Ep _) (by omega) ?_;intro s5 w5 own5 hg5 hat5;rw[List.nil_append,Nat.zero_add] at own5;have hb5:Below w4.heap.size w4 w5:=(ah w4).grown hg5 (Nat.le_refl _) (fun k e=>by cases e);have hs5:=hb5.size;have n0:=(hb5.cell (p:=⟨bc,0,none⟩) hbcl).trans (cb4 0 _ rfl);have n1:=(hb5.cell (p:=⟨bc,1,none⟩) hbcl).trans (cb4 1 _ rfl);have n2:=(hb5.cell (p:=⟨bc,2,none⟩) hbcl).trans (cb4 2 _ rfl);have n3:=(hb5.cell (p:=⟨bc,3,none⟩) hbcl).trans (cb4 3 _ rfl);have n4:=(hb5.cell (p:=⟨bc,4,none⟩) hbcl).trans (cb4 4 _ rfl);have n5:=(hb5.cell (p:=⟨bc,5,none⟩) hbcl).trans (cb4 5 _ rfl);have n6:=(hb5.cell (p:=⟨bc,6,none⟩) hbcl).trans (cb4 6 _ rfl)))
   have ts5:=ts4.freeze V hball
   have hs8:=hb8.size
   have hs6:=hb6.size
   have hDq:yP (Kn X4 w4 w8) w8 ⟨⟨x.who,ytd ++ [((cGp x.c.len),ta)]⟩,.slice pS (ytd.length+1) cS,.slice pT (ytd.length+1) cT,us ++ [.slice pu ta.l.length cu]⟩:=by
    have hum:us.length=ytd.length:=dq.m
    refine⟨⟨?_,fun i hi=>?_⟩,⟨?_,fun i hi=>?_⟩,fun i t u h1 h2=>?_,?_,?_⟩
    ·have:=bK (Nat.zero_le _) (own_below own6 hb8)
     simpa using this
    ·exact .inr ⟨(bV own6 hi).1,Nat.lt_of_lt_of_le (bV own6 hi).2 hb8.size⟩
    ·have:=bK (Nat.zero_le _) own8
     show w8.ownsRow 0 _ 5 _ (ytd ++ [((cGp x.c.len),ta)]).length (((ytd ++ [((cGp x.c.len),ta)]).zip (us ++ [.slice pu ta.l.length cu])).flatMap pJ)
     rw[List.zip_append hum.symm]
     simpa using this
    ·have:=bV own8 hi
     exact .inr ⟨by omega,by omega⟩
    ·simp only at h1 h2
     have hF:Fz (Kn X4 w4 w8) w8 31 2 (.slice pu ta.l.length cu) ta.l.length (pfV ta.l):=fz4.but (E:=fun _=>False) (.below hball) (fun _ _=>id) (fun _ _ g=>.inl g)
     rw[List.getElem?_append] at h1 h2
     rw[hum] at h2
     split at h1
     ·rename_i c
      rw[if_pos c] at h2
      exact (dq.u i t u h1 h2).but (E:=fun _=>False) (.below hball) (fun _ _=>id) (fun _ _ g=>.inl g)
     ·rename_i c
      rw[if_neg c] at h2
      have h0:i - ytd.length=0:=by
       have:=(List.getElem?_eq_some_iff.1 h1).1
       simp at this;omega
      rw[h0] at h1 h2
      simp at h1 h2
      rw[<- h1,<- h2]
      exact hF
    ·show (ytd ++ [_]).length<=1000
     rw[List.length_append];simp only [List.length_singleton];omega
    ·show (us ++ [_]).length=(ytd ++ [_]).length
     rw[List.length_append,List.length_append,hum];rfl
   have ts6:=ts5.put V en (x:=⟨x.who,ytd ++ [((cGp x.c.len),ta)]⟩) (us:=us ++ [.slice pu ta.l.length cu]) hy rfl hDq
   refine hQ (by first|exact .inl rfl|exact .inr rfl) ?_ ts6
   rw[List.map_set]
   exact gx2
  ·have gx2:=gf hf
   rw[ay hf] at P1
   generalize haA d S x.who (cGp x.c.len)=ta at P1
   generalize haD d S x.who (cGp x.c.len)=d6 at P1 gx2
   clear gf gt hf
   go_wp2_with fail
   refine P1.mono ?_
   clear P1
   rintro e w3 ⟨u,rfl,rowu,h3,hb3⟩
   obtain⟨pu,cu,rfl⟩:=aA rowu
   have ts3:=tsB.ans h3 hb3 (fun i hi=>(bV rowu hi).1)
   have ts4:=ts3.kn V (aj (ah w3) (.cells #[.int .i64 ta.p.1,.int .i64 ta.p.2,.int .i64 ta.ad,.string ta.ow,.slice pu ta.l.length cu] 46))
   clear h3 hb3 rowu tsB ts3
   go_wp2
   exact hQ (by first|exact .inl rfl|exact .inr rfl) gx2 ts4
theorem acw {T:Td}{w wx:World}{H bp m0:Nat}(V:aG T){l:List Hs}{pl:Option Addr}{cl:Nat}{K0 X0:Nat->Prop}{d0:Dk}{S0:Ses}(hll:l.length<=9223372036854775807)(hs:Wj w pl l)(hok:∀x∈l,LU x)(en:En w)(hm0:m0<=10)(gx0:Gx 0 m0 d0 S0 [] [] [])(ts0:Ts T K0 X0 w wx H d0 S0 bp (.slice none 0 0) (.slice none 0 0) (.slice none 0 0) [] [] [])
  (hE:∀{k m:Nat} {d':Dk} {S':Ses} {v1' v3' v4':Value} {e1':List Dt} {A':List Int} {P':List Bur.Sp} {K' X':Nat->Prop} {w':World} {d16 d17 d18 d19 d20 d21 d22 d23 d24 d25 d26 d27 d28 d29 d30 d79 d80 d81 d82 d83 d84 d85 d86 d87 d88 d89 d90 d91 d92 d93 d94 d95 d96 d97 d98 d99 aic aie aif aii aij aik ail ain ET EU EW EX EY EZ E8 Fa Fe Fg Fh Fj Fp Fq Fv FB FC FD FK FM FN FP FQ FT FU FV FW FX FY FZ F6 F7 F9 Gf Gg Gh Gi Gj Gm Gn Gp Gs Gu Gw Gy Gz GI GK GL GN GR GU GV GX GY GZ G5 G6 G7 G8 G9 He Hg Ho Hq Hr Ht Hu Hw Hy HY H6 H7 H8 H9 Ia Ib Ic Ie Ig Ih Ii Ij Ik Il Io Ip Iq Ir Iu Iw Iy Iz IB IC IE IG IJ IK IL IQ IU IV IW IX IY IZ I4 I5 I7 I8 I9 Ja Jb Jc Jd Je Jf Jg Jh Ji Jj Jk Jl Jm Jo Jp Jq Jr Js Jt Ju Jv Jw Jy Jz:Value},k<=60->m<=4*k+10->Gx k m d' S' (e1'.map (·.x)) A' P'->Ts T K' X' w w' H d' S' bp v1' v3' v4' e1' A' P'->Code.wp Tryz.prog (dW 12 (Tryz.f4.body.getD .skip)) (bodyPost Tryz.prog Tryz.f4 fun e w'=>e=.returned (.bool true)/\Below w.heap.size w w') ⟨#[.slice pl l.length cl,c1,c2,c3,.pointer (some ⟨H,0,none⟩),c5,c6,c7,c8,c9,c10,c11,.pointer (some ⟨bp,0,none⟩),v1',v3',v4',d16,d17,d18,d19,d20,d21,d22,d23,d24,d25,d26,d27,d28,d29,d30,c31,c32,Ai,c34,Aj,Ak,c37,Am,Ap,c40,zT,zU,Aq,Ar,Aw,c46,Az,AA,c49,zV,c51,Ah,c53,Bh,Bj,Bl,Bo,Bq,c59,Bv,Bz,BA,BD,c64,BF,BG,BH,BI,BJ,c70,BK,c72,BL,BM,c75,c76,BN,BO,d79,d80,d81,d82,d83,d84,d85,d86,d87,d88,d89,d90,d91,d92,d93,d94,d95,d96,d97,d98,d99,aic,aie,aif,aii,aij,aik,ail,ain,ET,EU,EW,EX,EY,EZ,E8,Fa,Fe,Fg,Fh,Fj,Fp,Fq,Fv,FB,FC,FD,FK,FM,FN,FP,FQ,FT,FU,FV,FW,FX,FY,FZ,F6,F7,F9,Gf,Gg,Gh,Gi,Gj,Gm,Gn,Gp,Gs,Gu,Gw,Gy,Gz,GI,GK,GL,GN,GR,GU,GV,GX,GY,GZ,G5,G6,G7,G8,G9,He,Hg,Ho,Hq,Hr,Ht,Hu,Hw,Hy,HY,H6,H7,H8,H9,Ia,Ib,Ic,Ie,Ig,Ih,Ii,Ij,Ik,Il,Io,Ip,Iq,Ir,Iu,Iw,Iy,Iz,IB,IC,IE,IG,IJ,IK,IL,IQ,IU,IV,IW,IX,IY,IZ,I4,I5,I7,I8,I9,Ja,Jb,Jc,Jd,Je,Jf,Jg,Jh,Ji,Jj,Jk,Jl,Jm,Jo,Jp,Jq,Jr,Js,Jt,Ju,Jv,Jw,Jy,Jz,jh,ji,jk,jl,jm,jo,jq,jr,jv,jw,jy,jA,jB,jC,jD,jE,jF,jG,jH,jI,jJ,jK,jL,jM,jO,jP,jQ,jR,jS,jT,jU,jV,jW,jX,jY,jZ,ku,kC,kD,kE,kF,kG,kH,kJ,kK,kL,kM,kQ,kR,kT,kU,kV,kW,kX,kY,kZ,lq,lu,lC,lF,lG,lI,lJ,lK,lN,lQ,lS,lT,lU,lV,lX,lY,lZ,l7,l9,mg,mD,mF,mG,mJ,mM,mO,mP,mQ,mV,mW,mX,mY,mZ,ng,ni,ny,nC,nG,nI,nJ,nK,nN,nO,nP,nR,nS,nT,nU,nV,nX,nY,nZ,og,oh,oq,oC,oD,oG,oH,oI,oJ,oK,oL,oM,oN,oO,oP,oQ,oU,oV,oW,oZ,pq,pF,pG,pI],[]⟩ w') :
  Code.wp Tryz.prog (dW 8 (Tryz.f4.body.getD .skip)) (bodyPost Tryz.prog Tryz.f4 fun e w'=>e=.returned (.bool true)/\Below w.heap.size w w') ⟨#[.slice pl l.length cl,c1,c2,c3,.pointer (some ⟨H,0,none⟩),c5,c6,c7,c8,c9,c10,c11,.pointer (some ⟨bp,0,none⟩),c13,c14,c15,c16,c17,c18,c19,c20,c21,Bg,c23,c24,c25,JY,JZ,c28,c29,AV,c31,c32,Ai,c34,Aj,Ak,c37,Am,Ap,c40,zT,zU,Aq,Ar,Aw,c46,Az,AA,c49,zV,c51,Ah,c53,Bh,Bj,Bl,Bo,Bq,c59,Bv,Bz,BA,BD,c64,BF,BG,BH,BI,BJ,c70,BK,c72,BL,BM,c75,c76,BN,BO,CS,c80,CU,CV,CW,CX,c85,CY,c87,JA,JB,JC,c91,JD,c93,JE,JF,JG,JH,JI,JJ,pK,pO,pR,pU,pV,c105,pX,c107,sS,c109,sU,sV,sZ,tq,tu,tC,c116,c117,tH,c119,tJ,tK,tN,tV,c124,tX,tY,c127,tZ,uf,c130,c131,ug,uh,uj,um,uo,uq,c138,c139,uy,c141,uz,c143,uD,c145,c146,uF,c148,uG,uH,uI,c152,uJ,c154,uK,c156,c157,uM,c159,c160,uN,c162,uO,c164,uP,uQ,c167,c168,uS,uT,c171,uU,c173,uV,c175,uX,uY,uZ,vg,vk,vw,c182,c183,vC,vF,vG,vH,vI,vJ,vK,vM,vN,c193,c194,vO,c196,vP,c198,vS,vT,c201,vU,c203,vV,vW,c206,vX,c208,vY,c210,vZ,c212,c213,wo,wu,wC,wE,c218,wF,wG,wH,c222,wI,wJ,wK,c226,c227,c228,c229,wL,wM,c232,c233,c234,wO,c236,wP,wQ,wR,wS,wU,wV,wW,jh,ji,jk,jl,jm,jo,jq,jr,jv,jw,jy,jA,jB,jC,jD,jE,jF,jG,jH,jI,jJ,jK,jL,jM,jO,jP,jQ,jR,jS,jT,jU,jV,jW,jX,jY,jZ,ku,kC,kD,kE,kF,kG,kH,kJ,kK,kL,kM,kQ,kR,kT,kU,kV,kW,kX,kY,kZ,lq,lu,lC,lF,lG,lI,lJ,lK,lN,lQ,lS,lT,lU,lV,lX,lY,lZ,l7,l9,mg,mD,mF,mG,mJ,mM,mO,mP,mQ,mV,mW,mX,mY,mZ,ng,ni,ny,nC,nG,nI,nJ,nK,nN,nO,nP,nR,nS,nT,nU,nV,nX,nY,nZ,og,oh,oq,oC,oD,oG,oH,oI,oJ,oK,oL,oM,oN,oO,oP,oQ,oU,oV,oW,oZ,pq,pF,pG,pI],[]⟩ wx:=by
 conv=>arg 2;whnf
 go_upto_block 0 with fail
 go_cut [13,14,15,16,17,18,19,20,21,22,23,24,25,26,27,28,29,30] from 79 to 243 (fun v1 v3 v4 _ _ _ _ _ _ _ _ _ _ _ _ _ _ _ wy=>∃(k m:Nat) (d:Dk) (S:Ses) (e1:List Dt) (A:List Int) (P:List Bur.Sp) (K X:Nat->Prop),k<=60/\m<=4*k+10/\Gx k m d S (e1.map (·.x)) A P/\Ts T K X w wy H d S bp v1 v3 v4 e1 A P)
 case rest=>
  obtain⟨k,m,d,S,e1,A,P,K,X,hk,hm,gx,ts⟩:=hcut
  refine ‹∀(a:Act) (w:World),Code.wp _ _ _ a w->_› _ _ ?_
  exact hE hk hm gx ts
 case first=>
 clear hE
 go_wp2_with fail
 go_loopw [13,14,15,16] (fun v1 v3 v4 i wr=>∃(k m:Nat) (d:Dk) (S:Ses) (e1:List Dt) (A:List Int) (P:List Bur.Sp) (K X:Nat->Prop),k<=l.length/\k<=60/\i=.int .i64 k/\m<=4*k+10/\Gx k m d S (e1.map (·.x)) A P/\Ts T K X w wr H d S bp v1 v3 v4 e1 A P) (fun _ _ _ i _=>l.length - (intOf i).toNat)
 case atStart=>exact⟨0,m0,_,_,[],[],[],_,_,by omega,by omega,rfl,by omega,gx0,ts0⟩
 case round=>
  clear ts0 gx0
  obtain⟨k,m,d,S,e1,A,P,K,X,hk,hk60,rfl,hm,gx,ts⟩:=hrel
  obtain⟨p1,m1,rfl,h1c,h1m⟩:=ts.r1.form
  obtain⟨p3,m3,rfl,h3c,h3m⟩:=ts.r3.form
  obtain⟨p4,m4,rfl,h4c,h4m⟩:=ts.r4.form
  by_cases hlt:k<l.length/\k<60
  ·obtain⟨hlt,hlt60⟩:=hlt
   have hlt':(k:Int)<(l.length:Int):=by omega
   have hlt60':(k:Int)<60:=by omega
   obtain⟨b,off,rfl,hbl,hc⟩:=(hs.step ts.h.bl) (by omega)
   obtain⟨x,hx⟩:∃x,l[k]? = some x:=⟨l[k],List.getElem?_eq_getElem hlt⟩
   have hxo:LU x:=hok x (List.mem_of_getElem? hx)
   have r:=hc k x hx
   have r0:=r 0 _ rfl
   rw[show off+(k*10+0)=off+k*10 by omega] at r0
   have r1:=r 1 _ rfl
   rw[show off+(k*10+1)=off+k*10+1 by omega] at r1
   have r2:=r 2 _ rfl
   rw[show off+(k*10+2)=off+k*10+2 by omega] at r2
   have r3:=r 3 _ rfl
   rw[show off+(k*10+3)=off+k*10+3 by omega] at r3
   have r4:=r 4 _ rfl
   rw[show off+(k*10+4)=off+k*10+4 by omega] at r4
   have r5:=r 5 _ rfl
   rw[show off+(k*10+5)=off+k*10+5 by omega] at r5
   have r6:=r 6 _ rfl
   rw[show off+(k*10+6)=off+k*10+6 by omega] at r6
   have r7:=r 7 _ rfl
   rw[show off+(k*10+7)=off+k*10+7 by omega] at r7
   have r8:=r 8 _ rfl
   rw[show off+(k*10+8)=off+k*10+8 by omega] at r8
   have r9:=r 9 _ rfl
   rw[show off+(k*10+9)=off+k*10+9 by omega] at r9
   have hb0:=aj (ah wr) (.cells #[.int .i64 x.what,.string x.who,.int .i64 x.n,.int .i64 x.c.what,.string x.c.nm,.int .i64 x.c.p.1,.int .i64 x.c.p.2,.int .i64 x.c.len,.int .i64 x.c.ad,.string x.c.ow] 35)
   have ts1:=ts.kn V hb0
   have sb:=Hb.new wr 35 x
   have hel:e1.length<=8:=by have h1:=gx.len;have h2:=gx.hz.dp.ok.few;rw[List.length_map] at h1;omega
   clear r hc hx hs ts hb0
   go_upto_block 2 with fail
   obtain⟨W,hW⟩:∃W,W=wr.alloc (.cells #[.int .i64 x.what,.string x.who,.int .i64 x.n,.int .i64 x.c.what,.string x.c.nm,.int .i64 x.c.p.1,.int .i64 x.c.p.2,.int .i64 x.c.len,.int .i64 x.c.ad,.string x.c.ow] 35):=⟨_,rfl⟩
   obtain⟨bs,hbs⟩:∃bs,bs=wr.heap.size:=⟨_,rfl⟩
   rw[<- hW] at ts1 sb ⊢
   rw[<- hbs] at sb ⊢
   have hKs:Kn K wr W bs:=.inr ⟨by omega,sb.lt⟩
   generalize Kn K wr W=K1 at ts1 hKs
   clear hW hbs r0 r1 r2 r3 r4 r5 r6 r7 r8 r9
   go_cut [18,19] from 93 to 107 (fun v18 _ wq=>∃kv:Int,v18=.int .i64 kv/\Fnd e1 x.who e1.length kv/\Below W.heap.size W wq)
   case first=>
    go_wp2_with fail
    go_loopw [18,19] (fun v18 v19 wq=>∃(n:Nat) (kv:Int),n<=e1.length/\v19=.int .i64 n/\v18=.int .i64 kv/\Fnd e1 x.who n kv/\Below W.heap.size W wq) (fun _ v19 _=>e1.length - (intOf v19).toNat)
    case atStart=>exact⟨0,-1,by omega,rfl,rfl,.inl ⟨rfl,fun i e hi=>by omega⟩,ah W⟩
    case round=>
     obtain⟨n,kv,hn,rfl,rfl,F,hbq⟩:=hrel
     by_cases hlt:n<e1.length
     ·have hlt':(n:Int)<(e1.length:Int):=by omega
      obtain⟨y,hy⟩:∃y,e1[n]? = some y:=⟨e1[n],List.getElem?_eq_getElem hlt⟩
      obtain⟨g,eg,hgl,-,b0,-⟩:=ts1.r1.at hy
      cases eg
      have cz0:=(hbq.cell (p:=⟨g,n*5,none⟩) hgl).trans b0
      have cz1:=(hbq.cell (p:=⟨bs,1,none⟩) sb.lt).trans (sb 1 _ rfl)
      by_cases hw:y.x.who=x.who
      ·have g1:(y.x.who.toList==x.who.toList)=true:=by rw[Vs.qO];simpa using hw
       have F2:=Fnd.hit hy hw
       clear F hy hw ts1 sb b0
       go_wp2
       go_quiet (fail)
       go_wp2
       exact⟨⟨n+1,n,by omega,by go_num,rfl,F2,below_drewN hbq _⟩,by simp[intOf];omega⟩
      ·have g1:(y.x.who.toList==x.who.toList)=false:=by rw[Vs.qO];simpa using hw
       have F2:=F.miss hy hw
       clear F hy hw ts1 sb b0
       go_wp2
       go_quiet (fail)
       go_wp2
       exact⟨⟨n+1,kv,by omega,by go_num,rfl,F2,below_drewN hbq _⟩,by simp[intOf];omega⟩
     ·have hne:n=e1.length:=by omega
      subst hne
      clear ts1 sb
      go_wp2
      go_meet
      case rel=>exact⟨kv,rfl,F,hbq⟩
   case rest=>
   obtain⟨kv,rfl,F,hbq⟩:=hcut
   obtain⟨w2,rfl⟩:∃w2,w2=wc:=⟨wc,rfl⟩
   have ts2:=ts1.kn V hbq
   have sb2:=sb.step hbq
   have hKs2:Kn K1 W w2 bs:=.inl hKs
   generalize Kn K1 W w2=K2 at ts2 hKs2
   clear ts1 sb hKs
   refine ‹∀(a:Act) (w:World),Code.wp _ _ _ a w->_› _ _ ?_
   by_cases w0:x.what=0
   ·refine abK V en hlt60 hm hel hxo gx ts2 sb2 hKs2 w0 ?_
    intro ex d' S' v1' v3' v4' e1' A' P' K' X' w'
    intros
    rename_i hex gx' ts'
    rcases hex with rfl|rfl
    ·go_wp2
     exact⟨⟨k+1,m+4,d',S',e1',A',P',K',X',by omega,by omega,by go_num,by omega,gx',ts'⟩,by simp[intOf];omega⟩
    ·go_wp2
     exact⟨⟨k+1,m+4,d',S',e1',A',P',K',X',by omega,by omega,by go_num,by omega,gx',ts'⟩,by simp[intOf];omega⟩
   by_cases w1:x.what=1
   ·refine Zw V en hlt60 hm hel h1c h1m hxo gx ts2 sb2 hKs2 F w1 ?_
    intro ex d' S' v1' v3' v4' e1' A' P' K' X' w'
    intros
    rename_i hex gx' ts'
    rcases hex with rfl|rfl
    ·go_wp2
     exact⟨⟨k+1,m+4,d',S',e1',A',P',K',X',by omega,by omega,by go_num,by omega,gx',ts'⟩,by simp[intOf];omega⟩
    ·go_wp2
     exact⟨⟨k+1,m+4,d',S',e1',A',P',K',X',by omega,by omega,by go_num,by omega,gx',ts'⟩,by simp[intOf];omega⟩
   by_cases w3:x.what=2 \/ x.what=3 \/ x.what=4 \/ x.what=5
   ·refine ab7 gx ts2 sb2 w3 ?_
    intro ex d' S' v1' v3' v4' e1' A' P' K' X' w'
    intros
    rename_i hex gx' ts'
    rcases hex with rfl|rfl
    ·go_wp2
     exact⟨⟨k+1,m+4,d',S',e1',A',P',K',X',by omega,by omega,by go_num,by omega,gx',ts'⟩,by simp[intOf];omega⟩
    ·go_wp2
     exact⟨⟨k+1,m+4,d',S',e1',A',P',K',X',by omega,by omega,by go_num,by omega,gx',ts'⟩,by simp[intOf];omega⟩
   by_cases hq:x.n.tmod 2=0
   ·refine WE V en hlt60 hm hxo gx ts2 sb2 hKs2 F (by omega) hq ?_
    intro ex d' S' v1' v3' v4' e1' A' P' K' X' w'
    intros
    rename_i hex gx' ts'
    rcases hex with rfl|rfl
    ·go_wp2
     exact⟨⟨k+1,m+4,d',S',e1',A',P',K',X',by omega,by omega,by go_num,by omega,gx',ts'⟩,by simp[intOf];omega⟩
    ·go_wp2
     exact⟨⟨k+1,m+4,d',S',e1',A',P',K',X',by omega,by omega,by go_num,by omega,gx',ts'⟩,by simp[intOf];omega⟩
   ·refine adi V en hlt60 hm hxo gx ts2 sb2 hKs2 F (by omega) hq ?_
    intro ex d' S' v1' v3' v4' e1' A' P' K' X' w'
    intros
    rename_i hex gx' ts'
    rcases hex with rfl|rfl
    ·go_wp2
     exact⟨⟨k+1,m+4,d',S',e1',A',P',K',X',by omega,by omega,by go_num,by omega,gx',ts'⟩,by simp[intOf];omega⟩
    ·go_wp2
     exact⟨⟨k+1,m+4,d',S',e1',A',P',K',X',by omega,by omega,by go_num,by omega,gx',ts'⟩,by simp[intOf];omega⟩
  ·by_cases h1:k<l.length
   ·have g1:decide ((k:Int)<(l.length:Int))=true:=by simp;omega
    have g2:decide ((k:Int)<60)=false:=by simp;omega
    go_wp2_with fail
    go_meet
    case rel=>exact⟨k,m,d,S,e1,A,P,K,X,hk60,hm,gx,ts⟩
   ·have g1:decide ((k:Int)<(l.length:Int))=false:=by simp;omega
    go_wp2_with fail
    go_meet
    case rel=>exact⟨k,m,d,S,e1,A,P,K,X,hk60,hm,gx,ts⟩
theorem aaQ {T:Td}(V:aG T){K X:Nat->Prop}{k m m3 m4 H bp:Nat}{d:Dk}{S:Ses}{p3 p4:Option Addr}{v1:Value}{e1:List Dt}{A:List Int}{P:List Bur.Sp}{w wx:World}(hk:k<=60)(hm:m<=4*k+10)(gx:Gx k m d S (e1.map (·.x)) A P)(ts:Ts T K X w wx H d S bp v1 (.slice p3 A.length m3) (.slice p4 P.length m4) e1 A P) :
  Code.wp Tryz.prog (dW 12 (Tryz.f4.body.getD .skip)) (bodyPost Tryz.prog Tryz.f4 fun e w'=>e=.returned (.bool true)/\Below w.heap.size w w') ⟨#[c0,c1,c2,c3,.pointer (some ⟨H,0,none⟩),c5,c6,c7,c8,c9,c10,c11,.pointer (some ⟨bp,0,none⟩),c13,.slice p3 A.length m3,.slice p4 P.length m4,c16,c17,c18,c19,c20,c21,Bg,c23,c24,c25,JY,JZ,c28,c29,AV,c31,c32,Ai,c34,Aj,Ak,c37,Am,Ap,c40,zT,zU,Aq,Ar,Aw,c46,Az,AA,c49,zV,c51,Ah,c53,Bh,Bj,Bl,Bo,Bq,c59,Bv,Bz,BA,BD,c64,BF,BG,BH,BI,BJ,c70,BK,c72,BL,BM,c75,c76,BN,BO,CS,c80,CU,CV,CW,CX,c85,CY,c87,JA,JB,JC,c91,JD,c93,JE,JF,JG,JH,JI,JJ,pK,pO,pR,pU,pV,c105,pX,c107,sS,c109,sU,sV,sZ,tq,tu,tC,c116,c117,tH,c119,tJ,tK,tN,tV,c124,tX,tY,c127,tZ,uf,c130,c131,ug,uh,uj,um,uo,uq,c138,c139,uy,c141,uz,c143,uD,c145,c146,uF,c148,uG,uH,uI,c152,uJ,c154,uK,c156,c157,uM,c159,c160,uN,c162,uO,c164,uP,uQ,c167,c168,uS,uT,c171,uU,c173,uV,c175,uX,uY,uZ,vg,vk,vw,c182,c183,vC,vF,vG,vH,vI,vJ,vK,vM,vN,c193,c194,vO,c196,vP,c198,vS,vT,c201,vU,c203,vV,vW,c206,vX,c208,vY,c210,vZ,c212,c213,wo,wu,wC,wE,c218,wF,wG,wH,c222,wI,wJ,wK,c226,c227,c228,c229,wL,wM,c232,c233,c234,wO,c236,wP,wQ,wR,wS,wU,wV,wW,jh,ji,jk,jl,jm,jo,jq,jr,jv,jw,jy,jA,jB,jC,jD,jE,jF,jG,jH,jI,jJ,jK,jL,jM,jO,jP,jQ,jR,jS,jT,jU,jV,jW,jX,jY,jZ,ku,kC,kD,kE,kF,kG,kH,kJ,kK,kL,kM,kQ,kR,kT,kU,kV,kW,kX,kY,kZ,lq,lu,lC,lF,lG,lI,lJ,lK,lN,lQ,lS,lT,lU,lV,lX,lY,lZ,l7,l9,mg,mD,mF,mG,mJ,mM,mO,mP,mQ,mV,mW,mX,mY,mZ,ng,ni,ny,nC,nG,nI,nJ,nK,nN,nO,nP,nR,nS,nT,nU,nV,nX,nY,nZ,og,oh,oq,oC,oD,oG,oH,oI,oJ,oK,oL,oM,oN,oO,oP,oQ,oU,oV,oW,oZ,pq,pF,pG,pI],[]⟩ wx:=by
 conv=>arg 2;whnf
 have hsm:=gx.small hk
 have ga:=gx.ga
 go_upto_block 7 with fail
 go_cut [31,32] from 244 to 275 (fun _ _ wy=>Below wx.heap.size wx wy)
 case rest=>
  refine ‹∀(a:Act) (w:World),Code.wp _ _ _ a w->_› _ _ ?_
  exact abT V hk hm gx (ts.kn V hcut)
 case first=>
 clear gx hk hm
 have r3:=ts.r3
 clear ts
 go_wp2_with fail
 go_loopw [31] (fun i wr=>∃j:Nat,j<=A.length/\i=.int .i64 j/\Below wx.heap.size wx wr) (fun i _=>A.length - (intOf i).toNat)
 case atStart=>exact⟨0,by omega,rfl,ah _⟩
 case round=>
  obtain⟨j,hj,rfl,hbw⟩:=hrel
  by_cases hlt:j<A.length
  ·have hlt':(j:Int)<(A.length:Int):=by omega
   obtain⟨x,hx⟩:∃x,A[j]? = some x:=⟨A[j],List.getElem?_eq_getElem hlt⟩
   obtain⟨b,eb,hbl,y0⟩:=r3.atA hx
   cases eb
   obtain⟨x1,x62⟩:=ga.ar x (List.mem_of_getElem? hx)
   have c0:=(hbw.cell (p:=⟨b,j,none⟩) hbl).trans y0
   have q1:decide (x<1)=false:=by simp;omega
   have q2:decide (x > 62)=false:=by simp;omega
   have q3:decide (62<x)=false:=by simp;omega
   have hS:Hid (∀j' (z:Int),j'<j->A[j']? = some z->(z==x)=false):=fun j' z h1 h2=>by
    have hpw:=List.pairwise_iff_getElem.1 ga.an j' j (by omega) hlt h1
    rw[(List.getElem?_eq_some_iff.1 h2).2,(List.getElem?_eq_some_iff.1 hx).2] at hpw
    simpa using hpw
   have hj1:Hid (j+1<=A.length):=hlt
   go_wp2_with fail
   go_loopw [32] (fun i wr=>∃n:Nat,n<=j/\i=.int .i64 n/\Below wx.heap.size wx wr) (fun i _=>j - (intOf i).toNat)
   case atStart=>exact⟨0,by omega,rfl,hbw⟩
   case round=>
    clear c0
    obtain⟨n,hn,rfl,hbv⟩:=hrel
    by_cases hnl:n<j
    ·have hnl':(n:Int)<(j:Int):=by omega
     have hnA:(n:Int)<(A.length:Int):=by omega
     obtain⟨z,hz⟩:∃z,A[n]? = some z:=⟨A[n]'(by omega),List.getElem?_eq_getElem _⟩
     obtain⟨b',eb,hbl',t0⟩:=r3.atA hz
     cases eb
     have hne:=hS.out n z hnl hz
     have c0:=(hbv.cell (p:=⟨b,j,none⟩) hbl).trans y0
     have c1:=(hbv.cell (p:=⟨b,n,none⟩) hbl).trans t0
     clear t0 hz
     go_wp2
     go_quiet (fail)
     go_wp2
     exact⟨⟨n+1,by omega,by go_num,below_drewN hbv _⟩,by simp[intOf];omega⟩
    ·clear y0
     go_wp2_with fail
     exact⟨⟨j+1,hj1.out,by go_num,hbv⟩,by simp[intOf];omega⟩
  ·go_wp2_with fail
   go_meet
   case rel=>exact hbw
theorem Ts.start {T:Td}{w wr:World}{K:Nat->Prop}{H:Nat}{d:Dk}(V:aG T)(h:H1 T w K wr H d []):Ts T (Kn K wr (wr.alloc (.cells #[.int .i64 0,.int .i64 26] 31))) (fun j=>j=wr.heap.size) w (wr.alloc (.cells #[.int .i64 0,.int .i64 26] 31)) H d [] wr.heap.size (.slice none 0 0) (.slice none 0 0) (.slice none 0 0) [] [] []:=
 ⟨h.step V (aj (ah wr) _),fun j hj=>.inr ⟨by omega,by rw[hj];simp⟩,Ef.nil _ _ _ _,rE.nil _ _ _ _ _ _,rE.nil _ _ _ _ _ _,fun j h=>(by cases h),fun j h=>(by cases h),fun j h=>(by cases h),rfl,⟨by simp,by simp⟩⟩
theorem Rx {T:Td}(V:aG T)(l:List Hs)(pl:Option Addr)(cl:Nat)(w:World)(hll:l.length<=9223372036854775807)(hs:Wj w pl l)(hok:∀x∈l,LU x)(en:En w) :
  Calls Tryz.prog 4 #[.slice pl l.length cl] w fun e w'=>e=.returned (.bool true)/\Below w.heap.size w w':=by
 have P0:=aeR V en
 have P1:=fun {wz:World} (hb:Below w.heap.size w wz)=>H1.new V 100000 w wz (fun j=>j<w.heap.size) (en.step hb) (by decide) (by decide) (fun j hj=>Nat.lt_of_lt_of_le hj hb.size) (fun j hj=>hj) hb
 have P2:=fun {wz:World} {H:Nat} (h:H1 T w (fun j=>j<w.heap.size) wz H (dk0 100000) [])=>h.once V cg1 (Dp.new (room:=100000) (by decide) (by decide)) (by decide)
 rw[afh,aB,show onD (dk0 100000) cg1=gd1 from rfl] at P2
 have P3:=fun {wz:World} {H:Nat} (h:H1 T w (fun j=>j<w.heap.size) wz H gd1 [])=>h.once V cg2 YI.dp (by decide)
 rw[afZ,aB,show onD gd1 cg2=gd2 from rfl] at P3
 have G0:=afC
 generalize onA (dk0 100000) cg1=a1 at P2
 generalize onN (dk0 100000) cg1=n1 at P2
 generalize onA gd1 cg2=a2 at P3
 generalize onN gd1 cg2=n2 at P3
 generalize gd2=d2 at P3 G0
 generalize gd1=d1 at P2 P3
 go_enter Tryz.func4,Tryz.ntmps4
 go_wp2_with fail
 refine P0.mono ?_
 rintro e w1 ⟨rfl,hb1⟩
 have Q1:=P1 hb1
 clear P0 P1
 go_wp2_with fail
 refine Q1.mono ?_
 rintro e w2 ⟨H,rfl,h2,hb2⟩
 have Q2:=P2 h2
 clear Q1 P2 h2 hb2 hb1
 go_wp2_with fail
 refine Q2.mono ?_
 rintro e w3 ⟨u3,rfl,row3,h3,bt3⟩
 obtain⟨pu,cu,rfl⟩:=aA row3
 have h3':=h3.same V (aj (ah w3) (.cells #[.int .i64 a1.p.1,.int .i64 a1.p.2,.int .i64 a1.ad,.string a1.ow,.slice pu a1.l.length cu] 46))
 have Q3:=P3 h3'
 clear Q2 P3 h3 h3' bt3 row3
 go_wp2_with fail
 refine Q3.mono ?_
 rintro e w4 ⟨u4,rfl,row4,h4,bt4⟩
 obtain⟨pu',cu',rfl⟩:=aA row4
 have h5:=h4.same V (aj (ah w4) (.cells #[.int .i64 a2.p.1,.int .i64 a2.p.2,.int .i64 a2.ad,.string a2.ow,.slice pu' a2.l.length cu'] 46))
 clear Q3 h4 bt4 row4
 go_upto_region 9 with fail
 have ts0:=Ts.start V h5
 clear h5
 go_cut [12] from 78 to 78 (fun v12 wy=>∃(bp:Nat) (K X:Nat->Prop),v12=.pointer (some ⟨bp,0,none⟩)/\Ts T K X w wy H d2 [] bp (.slice none 0 0) (.slice none 0 0) (.slice none 0 0) [] [] [])
 case first=>
  go_wp2
  go_meet
  case rel=>
   refine⟨_,_,_,?_,ts0⟩
   simp
 case rest=>
 clear ts0
 obtain⟨bp,K,X,rfl,ts⟩:=hcut
 refine ‹∀(a:Act) (w:World),Code.wp _ _ _ a w->_› _ _ ?_
 refine acw V hll hs hok en (m0:=6) (by decide) G0 ts ?_
 intro k m d' S' v1' v3' v4' e1' A' P' K' X' w'
 intros
 rename_i hk hm gx ts'
 obtain⟨p3,m3,rfl,_,_⟩:=ts'.r3.form
 obtain⟨p4,m4,rfl,_,_⟩:=ts'.r4.form
 exact aaQ V hk hm gx ts'
