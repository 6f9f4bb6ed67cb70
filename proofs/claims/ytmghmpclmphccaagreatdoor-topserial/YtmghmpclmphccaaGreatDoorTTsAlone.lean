/- -/
import Derived.Test.YtmghmpclmphccaaGreatDoorTHtOpen
import Derived.Test.YtmghmpclmphccaaGreatDoorTVsBase
import Derived.Deep.CutBlock
import Derived.Deep.RegionHeld3
import Derived.BigQuiet
import Derived.Test.YtmghmpclmphccaaGreatDoorTTsMath2
import Derived.Test.YtmghmpclmphccaaGreatDoorTPlR
set_option maxHeartbeats 8000000
set_option maxRecDepth 100000
namespace Go.Proofs.YtmghmpclmphccaaGreatDoor.Pa
open Go.RowKit Go.Maps Vs
theorem spAt_row {w:World} {B n cap:Nat} {p:Option Addr} {l:List Bur.Sp} (h:w.ownsRow B 31 2 (.slice p n cap) l.length (pfV l)):Ta.SpAt w p l:=(Ta.spAt_own (B:=B) (n:=n) (cap:=cap) h).2
theorem own_len2 {w:World} {B e size n:Nat} {v:Value} {xs:List Value} (h:w.ownsRow B e size v n xs):n<=9223372036854775807:=by
 obtain⟨p,c,_,h1,h2,_⟩:=lw_form h
 omega
theorem ts_alone {T:Td} (V:DFace T) {K X:Nat->Prop} {k:Nat} {d:Dk} {S:Ses} {H:Nat} {v1 v2:Value} {e1 e2:List Dt} {w wx:World} {c0 c1 c2 c3 c5 c6 c9 c10 c11 c12 c13 c14 c15 c16 c17 c18 c19 c20 c21 c22 c23 c24 c25 c26 c27 c28 c29 c30 c31 c32 c33 c34 c35 c36 c37 c38 c39 c40 c41 c42 c43 c44 c45 c46 c47 c48 c49 c50 c51 c52 c53 c54 c55 c56 c57 c58 c59 c60 c61 c62 c63 c64 c65 c66 c67 c68 c69 c70 c71 c72 c73 c74 c75 c76 c77 c78 c79 c80 c81 c82 c83 c84 c85 c86 c87 c88 c89 c90 c91 c92 c93 c94 c95 c96 c97 c98 c99 c100 c101 c102 c103 c104 c105 c106 c107 c108 c109 c110 c111 c112 c113 c114 c115 c116 c117 c118 c119 c120 c121 c122 c123 c124 c125 c126 c127 c128 c129 c130 c131 c132 c133 c134 c135 c136 c137 c138 c139 c140 c141 c142 c143 c144 c145 c146 c147 c148 c149 c150 c151 c152 c153 c154 c155 c156 c157 c158 c159 c160 c161 c162 c163 c164 c165 c166 c167 c168 c169 c170 c171 c172 c173 c174 c175 c176 c177 c178 c179 c180 c181 c182 c183 c184 c185 c186 c187 c188 c189 c190 c191 c192 c193 c194 c195 c196 c197 c198 c199 c200 c201 c202 c203 c204 c205 c206 c207 c208 c209 c210 c211 c212 c213 c214 c215 c216 c217 c218 c219 c220 c221 c222 c223 c224 c225 c226 c227 c228 c229 c230 c231 c232 c233 c234 c235 c236 c237 c238 c239 c240 c241 c242 c243 c244 c245 c246 c247 c248 c249 c250 c251 c252 c253 c254 c255 c256 c257 c258 c259 c260 c261 c262 c263 c264 c265 c266 c267 c268 c269 c270 c271 c272 c273 c274 c275 c276 c277 c278 c279 c280 c281 c282 c283 c284 c285 c286 c287 c288 c289 c290 c291 c292 c293 c294 c295 c296 c297 c298:Value}
  (sx:Sx k d S (e1.map (·.x)) (e2.map (·.x))) (hk:k<=60) (ts:Ts T K X w wx H d S v1 v2 e1 e2) :
  Code.wp Tryz.prog (dropSeq 7 (Tryz.f3.body.getD .skip)) (bodyPost Tryz.prog Tryz.f3 fun e w'=>e=.returned (.bool true)/\Below w.heap.size w w') ⟨#[c0,c1,c2,c3,.pointer (some ⟨H,0,none⟩),c5,c6,v2,.int .i64 (d.lg.ls.length:Int),c9,c10,c11,c12,c13,c14,c15,c16,c17,c18,c19,c20,c21,c22,c23,c24,c25,c26,c27,c28,c29,c30,c31,c32,c33,c34,c35,c36,c37,c38,c39,c40,c41,c42,c43,c44,c45,c46,c47,c48,c49,c50,c51,c52,c53,c54,c55,c56,c57,c58,c59,c60,c61,c62,c63,c64,c65,c66,c67,c68,c69,c70,c71,c72,c73,c74,c75,c76,c77,c78,c79,c80,c81,c82,c83,c84,c85,c86,c87,c88,c89,c90,c91,c92,c93,c94,c95,c96,c97,c98,c99,c100,c101,c102,c103,c104,c105,c106,c107,c108,c109,c110,c111,c112,c113,c114,c115,c116,c117,c118,c119,c120,c121,c122,c123,c124,c125,c126,c127,c128,c129,c130,c131,c132,c133,c134,c135,c136,c137,c138,c139,c140,c141,c142,c143,c144,c145,c146,c147,c148,c149,c150,c151,c152,c153,c154,c155,c156,c157,c158,c159,c160,c161,c162,c163,c164,c165,c166,c167,c168,c169,c170,c171,c172,c173,c174,c175,c176,c177,c178,c179,c180,c181,c182,c183,c184,c185,c186,c187,c188,c189,c190,c191,c192,c193,c194,c195,c196,c197,c198,c199,c200,c201,c202,c203,c204,c205,c206,c207,c208,c209,c210,c211,c212,c213,c214,c215,c216,c217,c218,c219,c220,c221,c222,c223,c224,c225,c226,c227,c228,c229,c230,c231,c232,c233,c234,c235,c236,c237,c238,c239,c240,c241,c242,c243,c244,c245,c246,c247,c248,c249,c250,c251,c252,c253,c254,c255,c256,c257,c258,c259,c260,c261,c262,c263,c264,c265,c266,c267,c268,c269,c270,c271,c272,c273,c274,c275,c276,c277,c278,c279,c280,c281,c282,c283,c284,c285,c286,c287,c288,c289,c290,c291,c292,c293,c294,c295,c296,c297,c298],[]⟩ wx:=by
 conv=>arg 2;whnf
 obtain⟨ov,hov0⟩:∃ ov,e2.map (·.x)=ov:=⟨_,rfl⟩
 rw[hov0] at sx
 have hsm:=sx.dp.sm (by omega)
 have hLk:=sx.ls
 have hwl:wtL d.lg.ls<=90:=by have:=sx.dp.wl;unfold wt at this;omega
 have hlen:e2.length<=60:=by have:=sx.nv;rw[<- hov0,List.length_map] at this;omega
 have hchf:∀ l∈d.lg.ls,chF l=0:=sx.dp.ok.lg.each
 obtain⟨p2,c2,rfl,h2c,h2m⟩:=ts.r2.form
 have P0:=H1.new V 100000 w wx (fun j=>j<wx.heap.size) ts.h.en (by decide) (by decide) (fun j hj=>hj) (fun j hj=>Nat.lt_of_lt_of_le hj ts.h.bl.size) ts.h.bl
 go_wp2_with fail
 refine P0.mono ?_
 rintro e w1 ⟨Ha,rfl,hT,hb1⟩
 clear P0
 have s2:T2 T (fun j=>j<wx.heap.size) X w w1 Ha (dk0 100000) [] H d S (.slice p2 e2.length c2) e2:=by
  obtain⟨G,f1,f2⟩:=ts.h.ex
  exact⟨hT,fun j hj=>ts.h.kl j (ts.xk j hj),⟨G,f1.step V hb1,fun j hj=>f1.lt hj⟩,ts.r2.but (E:=fun _=>False) (.below hb1) (fun _ _=>id) (fun _ _=>id) (fun _ _ g=>g) (fun _ _ g=>g) (fun _ hj _=>hj)⟩
 have ax0:=Ax.new d.lg.ls
 clear hT hb1 ts
 have hL90:d.lg.ls.length<=90:=by omega
 obtain⟨L,hL⟩:∃ L,Hid (L=d.lg.ls.length):=⟨_,rfl⟩
 rw[<- hL.out]
 rw[<- hL.out] at hLk
 go_wp2_with fail
 go_loopw [25] (fun i wr=>∃ (n m:Nat) (a:Dk) (K2:Nat->Prop),i=.int .i64 n/\n<=L+1/\Hid ((n=0/\m=0) \/ m+1=n)/\Ax d.lg.ls m (120*n) a/\T2 T K2 X w wr Ha a [] H d S (.slice p2 e2.length c2) e2) (fun i _=>L+1 - (intOf i).toNat)
 case atStart=>exact⟨0,0,_,_,rfl,by omega,.inl ⟨rfl,rfl⟩,ax0,s2⟩
 case round=>
  obtain⟨n,m,a,K2,rfl,hn,hnm,ax,s2n⟩:=hrel
  clear s2 ax0
  by_cases hle:n<=L
  ·have hle':((n:Int)<=(L:Int)):=by omega
   have hat:Hid (Ad ov n 0 m):=by
    rcases hnm.out with ⟨g1,g2⟩|g
    ·rw[g1,g2];exact Ad.first sx
    ·rw[<- g];exact Ad.next
   clear hnm
   go_wp2_with fail
   go_loopw [26] (fun i wr=>∃ (t m:Nat) (a:Dk) (K2:Nat->Prop),i=.int .i64 t/\t<=2/\Hid ((t=0/\Ad ov n 0 m) \/ (1<=t/\m=n))/\Ax d.lg.ls m (120*n+60*t) a/\T2 T K2 X w wr Ha a [] H d S (.slice p2 e2.length c2) e2) (fun i _=>2 - (intOf i).toNat)
   case atStart=>exact⟨0,m,_,_,rfl,by omega,.inl ⟨rfl,hat.out⟩,ax,s2n⟩
   case round=>
    clear s2n ax hat
    obtain⟨t,m,a,K2,rfl,ht,hst,ax,s3⟩:=hrel
    by_cases hlt:t<2
    ·have hlt':(t:Int)<2:=by omega
     go_wp2_with fail
     go_loopw [27] (fun i wr=>∃ (r m:Nat) (a:Dk) (K2:Nat->Prop),i=.int .i64 r/\r<=e2.length/\Hid ((t=0/\Ad ov n r m) \/ (1<=t/\m=n))/\Ax d.lg.ls m (120*n+60*t+r) a/\T2 T K2 X w wr Ha a [] H d S (.slice p2 e2.length c2) e2) (fun i _=>e2.length - (intOf i).toNat)
     case atStart=>exact⟨0,m,_,_,rfl,by omega,hst,ax,s3⟩
     case round=>
      clear s3 ax hst
      obtain⟨r,m,a,K2,rfl,hr,hst,ax,s3⟩:=hrel
      by_cases hlr:r<e2.length
      ·have hlr':(r:Int)<(e2.length:Int):=by omega
       obtain⟨e,hee⟩:∃ e,e2[r]? = some e:=⟨e2[r],List.getElem?_eq_getElem hlr⟩
       have hov:ov[r]? = some e.x:=by rw[<- hov0,List.getElem?_map,hee];rfl
       obtain⟨g,rfl,hgl,hKg,b0,b1,b2,b3,b4⟩:=s3.r2.at hee
       have dq:=s3.r2.each e (List.mem_of_getElem? hee)
       obtain⟨⟨xw,xn,xcs,xtd,xow⟩,va,vb,vc,us⟩:=e
       obtain⟨pa,ca,ea,ha1,ha2⟩:=dq.a.form
       obtain⟨pb,cb',eb,hb1,hb2'⟩:=dq.b.form
       obtain⟨pc,cc,ec,hc1,hc2⟩:=dq.c.form
       simp only at hov b0 b1 b2 b3 b4 ea eb ec
       subst ea eb ec
       have hb4:=below_al (below_self wr) (.cells #[.string xw,.int .i64 xn,.slice pa xcs.length ca,.slice pb xtd.length cb',.slice pc xtd.length cc] 40)
       have s4:=s3.kn V hb4
       have tb:=Tb.new wr 40 ⟨⟨xw,xn,xcs,xtd,xow⟩,.slice pa xcs.length ca,.slice pb xtd.length cb',.slice pc xtd.length cc,us⟩
       have dq4:=dq.but (E:=fun _=>False) (X':=X) (.below hb4) (fun _ _=>id) (fun _ _ g=>g)
       have hch:=sx.chx (List.mem_of_getElem? hov)
       have PC:=tsChanged dq4
       simp only at PC hch
       rw[hch] at PC
       clear dq4 hch dq
       by_cases hnum:xn=n
       ·subst hnum
        obtain⟨cb,hcb⟩:∃ cb,cb=chT ⟨xw,n,xcs,xtd,xow⟩:=⟨_,rfl⟩
        rw[<- hcb] at PC
        by_cases hcd:cb=decide (t=0)
        ·obtain⟨⟨s',hOm⟩,m',hm',hst2⟩:(∃ s',Tv d.lg.ls ⟨xw,n,xcs,xtd,xow⟩ s' m) /\ ∃ m',m'=(if xow=[] then m else m+1)/\Hid ((t=0/\Ad ov n (r+1) m') \/ (1<=t/\m'=n)):=by
          rcases hst.out with ⟨g1,g2⟩|⟨g1,g2⟩
          ·obtain⟨h1,h2,h3⟩:=Ad.done sx g2 hov rfl (by rw[<- hcb,hcd,decide_eq_true g1])
           exact⟨h1,m+1,by rw[if_neg h2],.inl ⟨g1,h3⟩⟩
          ·obtain⟨h1,h2⟩:=Sx.old sx hov rfl (by rw[<- hcb,hcd,decide_eq_false (by omega)])
           have h1':∃ s',Tv d.lg.ls ⟨xw,n,xcs,xtd,xow⟩ s' m:=by rw[g2];exact h1
           exact⟨h1',m,by rw[if_pos h2],.inr ⟨g1,g2⟩⟩
         rw[hcd] at PC
         have hbt:((t:Int)==0)=decide (t=0):=by
          by_cases c:t=0
          ·subst c;rfl
          ·rw[decide_eq_false c];exact beq_eq_false_iff_ne.2 (by omega)
         generalize decide (t=0)=bb at PC hbt
         clear hst hcd hcb
         go_wp2_with (go_at_call 12;refine PC.mono ?_;clear PC;rintro e w5 ⟨rfl,hb5⟩)
         have s5:=s4.kn V hb5
         have tb5:=tb.step hb5
         have hKb:Kn (Kn K2 wr (wr.alloc (.cells #[.string xw,.int .i64 n,.slice pa xcs.length ca,.slice pb xtd.length cb',.slice pc xtd.length cc] 40))) (wr.alloc (.cells #[.string xw,.int .i64 n,.slice pa xcs.length ca,.slice pb xtd.length cb',.slice pc xtd.length cc] 40)) w5 wr.heap.size:=.inl (.inr ⟨Nat.le_refl _,by simp⟩)
         obtain⟨Bx,hBx⟩:∃ Bx,Bx=wr.heap.size:=⟨_,rfl⟩
         rw[<- hBx] at tb5 hKb ⊢
         generalize Kn (Kn K2 wr (wr.alloc (.cells #[.string xw,.int .i64 n,.slice pa xcs.length ca,.slice pb xtd.length cb',.slice pc xtd.length cc] 40))) (wr.alloc (.cells #[.string xw,.int .i64 n,.slice pa xcs.length ca,.slice pb xtd.length cb',.slice pc xtd.length cc] 40)) w5=K5 at s5 hKb
         obtain⟨f1,o0,f2,f3,ay0⟩:=ax.open
         have PB:=s5.open V zs ax.al.ok (ax.sm hwl (by omega)) (by decide) (by decide)
         rw[f1,f2,f3,ev_0,show zs={ data:=#[122] } from rfl] at PB
         clear hBx s4 tb s3 hb5 hb4 f1 f2 f3
         go_wp2_with fail
         refine PB.mono ?_
         clear PB
         rintro e w6 ⟨rfl,s6,hb6⟩
         have tb6:=tb5.but hb6 (fun g=>g hKb)
         obtain⟨told,ownx⟩:=ax.told hchf (Nat.le_trans hL90 (by decide)) hOm
         simp only at told ownx
         have hstl:=(s6.r2.each _ (List.mem_of_getElem? hee)).n
         have htl:=(s6.r2.each _ (List.mem_of_getElem? hee)).l
         have hul:=(s6.r2.each _ (List.mem_of_getElem? hee)).m
         simp only at hstl htl hul
         have told':Hid (tlR a.vs (ox0 (a.ids+1) m) xcs=xtd):=told
         have ownx':Hid ((rnC a.vs (ox0 (a.ids+1) m) xcs).own=xow):=ownx
         have htl':Hid (xtd.length=xcs.length):=htl
         have hul':Hid (us.length=xtd.length):=hul
         clear s5 tb5 hb6 told ownx htl hul
         go_wp2_with fail
         go_loopw [30] (fun i wr=>∃ (j:Nat) (o:Ox) (td:List (An×Int)) (K7:Nat->Prop),i=.int .i64 j/\j<=xcs.length/\K7 Bx/\Ay d.lg.ls m (120*n+60*t+r) a o (xcs.take j) td/\T2 T K7 X w wr Ha (aD a o) [({ data:=#[122] },o.id)] H d S (.slice (some ⟨g,0,none⟩) e2.length c2) e2/\Tb wr Bx ⟨⟨xw,n,xcs,xtd,xow⟩,.slice pa xcs.length ca,.slice pb xtd.length cb',.slice pc xtd.length cc,us⟩) (fun i _=>xcs.length - (intOf i).toNat)
         case atStart=>exact⟨0,o0,[],_,rfl,by omega,hKb,ay0,s6,tb6⟩
         case round=>
          clear s6 tb6 ay0
          obtain⟨j,o,td,K7,rfl,hj,hK7,ay,s7,tb7⟩:=hrel
          obtain⟨k0,k1,k2,k3,k4⟩:=id tb7
          simp only at k0 k1 k2 k3 k4
          by_cases hlj:j<xcs.length
          ·have hlj':(j:Int)<(xcs.length:Int):=by omega
           obtain⟨y,hy⟩:∃ y,xcs[j]? = some y:=⟨xcs[j],List.getElem?_eq_getElem hlj⟩
           have dq7:=s7.r2.each _ (List.mem_of_getElem? hee)
           have dqa:Fz X wr 33 7 (.slice pa xcs.length ca) xcs.length (xcs.flatMap encC):=dq7.a
           obtain⟨ga,ca',ea,_,hga,hXa,hcl⟩:=dqa.at (by omega)
           cases ea
           have hl7:(xcs.flatMap encC).length=xcs.length*7:=flat_len (k:=7) (fun _=>rfl) xcs
           have z0:wr.cell? ⟨ga,j*7,none⟩=some (.int .i64 y.what):=(hcl (j*7) (by omega)).trans (encC_at xcs j y hy 0 _ rfl)
           have z1:=(hcl (j*7+1) (by omega)).trans (encC_at xcs j y hy 1 _ rfl)
           have z2:=(hcl (j*7+2) (by omega)).trans (encC_at xcs j y hy 2 _ rfl)
           have z3:=(hcl (j*7+3) (by omega)).trans (encC_at xcs j y hy 3 _ rfl)
           have z4:=(hcl (j*7+4) (by omega)).trans (encC_at xcs j y hy 4 _ rfl)
           have z5:=(hcl (j*7+5) (by omega)).trans (encC_at xcs j y hy 5 _ rfl)
           have z6:=(hcl (j*7+6) (by omega)).trans (encC_at xcs j y hy 6 _ rfl)
           have hto:xtd[j]? = some (tlC a.vs o y):=by rw[<- told'.out,tlR_at a.vs xcs _ j y hy,<- ay.run]
           have hjt:j<xtd.length:=(List.getElem?_eq_some_iff.1 hto).1
           have hjt':(j:Int)<(xtd.length:Int):=by omega
           obtain⟨u,hu⟩:∃ u,us[j]? = some u:=⟨us[j]'(by rw[hul'.out];exact hjt),List.getElem?_eq_getElem _⟩
           obtain⟨q1,q2,q3,q4,ay2⟩:=ay.ask y
           have PA:=s7.ask V zs y ay.ok (ay.sm hwl (by omega)) (by decide)
           rw[show ({ data:=#[122] }:ByteArray)=zs from rfl,q1,q2,q3,show zs={ data:=#[122] } from rfl] at PA
           have ay3:Ay d.lg.ls m (120*n+60*t+r) a (nxC a.vs o y) (xcs.take (j+1)) (td ++ [tlC a.vs o y]):=by
            rw[List.take_add_one,hy];exact ay2
           rw[show o.id=(nxC a.vs o y).id from q4.symm] at PA
           generalize nxC a.vs o y=o2 at PA ay3
           generalize td ++ [tlC a.vs o y]=td2 at ay3
           generalize tlC a.vs o y=tt at PA hto
           obtain⟨ta,tf⟩:=tt
           simp only at PA
           have htoH:Hid (xtd[j]? = some (ta,tf)):=hto
           have huH:Hid (us[j]? = some u):=hu
           clear ay ay2 q1 q2 q3 q4 hcl dqa dq7 hy hto hu
           go_wp2_with fail
           refine PA.mono ?_
           clear PA
           rintro e w8 ⟨pu,cu,rfl,row8,s8,hb8⟩
           have tb8:=tb7.but hb8 (fun g=>g hK7)
           have hb9:=below_al (below_self w8) (.cells #[.int .i64 ta.p.1,.int .i64 ta.p.2,.int .i64 ta.ad,.string ta.ow,.slice pu ta.l.length cu] 46)
           have ab0:=Ab.new w8 (.int .i64 ta.p.1) (.int .i64 ta.p.2) (.int .i64 ta.ad) (.string ta.ow) (.slice pu ta.l.length cu) 46
           obtain⟨w9,hw9⟩:∃ w9,w9=w8.alloc (.cells #[.int .i64 ta.p.1,.int .i64 ta.p.2,.int .i64 ta.ad,.string ta.ow,.slice pu ta.l.length cu] 46):=⟨_,rfl⟩
           obtain⟨bx,hbx⟩:∃ bx,bx=w8.heap.size:=⟨_,rfl⟩
           rw[<- hw9] at hb9 ab0
           rw[<- hbx] at ab0
           have s9:=s8.kn V hb9
           have tb9:=tb8.step hb9
           have row9:=own_below row8 hb9
           have dq9:=s9.r2.each _ (List.mem_of_getElem? hee)
           have fzb:Fz X w9 46 5 (.slice pb xtd.length cb') xtd.length ((xtd.zip us).flatMap encA):=dq9.b
           have fzc:Fz X w9 4 1 (.slice pc xtd.length cc) xtd.length (xtd.map encB):=dq9.c
           have fzu:=dq9.u j (ta,tf) u htoH.out huH.out
           obtain⟨pv,cv,rfl,_⟩:=fzu.form
           simp only at fzu
           obtain⟨gb,cb3,eb,_,hgb,hXb,hcb2⟩:=fzb.at (by omega)
           cases eb
           obtain⟨gc,cc3,ec,_,hgc,hXc,hcc⟩:=fzc.at (by omega)
           cases ec
           have hlA:((xtd.zip us).flatMap encA).length=xtd.length*5:=by rw[flat_len (k:=5) (fun _=>rfl),List.length_zip,hul'.out,Nat.min_self]
           have hza:(xtd.zip us)[j]? = some ((ta,tf),.slice pv ta.l.length cv):=by rw[List.getElem?_zip_eq_some];exact⟨htoH.out,huH.out⟩
           have y0:w9.cell? ⟨gb,j*5,none⟩=some (.int .i64 ta.p.1):=(hcb2 (j*5) (by omega)).trans (encA_at _ j _ hza 0 _ rfl)
           have y1:=(hcb2 (j*5+1) (by omega)).trans (encA_at _ j _ hza 1 _ rfl)
           have y2:=(hcb2 (j*5+2) (by omega)).trans (encA_at _ j _ hza 2 _ rfl)
           have y3:=(hcb2 (j*5+3) (by omega)).trans (encA_at _ j _ hza 3 _ rfl)
           have y4:=(hcb2 (j*5+4) (by omega)).trans (encA_at _ j _ hza 4 _ rfl)
           have v3:w9.cell? ⟨Bx,3,none⟩=some (.slice (some ⟨gb,0,none⟩) xtd.length cb'):=tb9.c3
           have v4:w9.cell? ⟨Bx,4,none⟩=some (.slice (some ⟨gc,0,none⟩) xtd.length cc):=tb9.c4
           have v5:w9.cell? ⟨gc,j,none⟩=some (.bool (decide (tf≠0))):=(hcc j (by simp;omega)).trans (by rw[List.getElem?_map,htoH.out];rfl)
           have PS:=fun {wz:World} (hb:Below w9.heap.size w9 wz)=>answersSame ta pu pv cu cv wz (own_len2 row9) ((spAt_row row9).step hb) ((spAt_row fzu.1).step hb)
           obtain⟨x0,x1,x2,x3,x4,_,_,_,_,_⟩:=id ab0
           clear s7 tb7 k0 k1 k2 k3 k4 hb8 hcb2 hcc fzb fzc hza dq9 s8 tb8 row8
           rcases evB tf with ⟨ee,e0⟩|⟨ee,e0⟩
           ·rw[show decide (tf≠0)=false by simp[e0]] at v5
            rw[ee]
            clear ee e0
            go_upto_region 77 with fail
            rw[<- hw9]
            rw[<- hbx]
            have SX:∀ {wz:World},Below w9.heap.size w9 wz->wz.cell? ⟨bx,0,none⟩=some (.int .i64 ta.p.1)/\wz.cell? ⟨bx,1,none⟩=some (.int .i64 ta.p.2)/\wz.cell? ⟨bx,2,none⟩=some (.int .i64 ta.ad)/\wz.cell? ⟨bx,3,none⟩=some (.string ta.ow)/\wz.cell? ⟨bx,4,none⟩=some (.slice pu ta.l.length cu)/\wz.cell? ⟨Bx,3,none⟩=some (.slice (some ⟨gb,0,none⟩) xtd.length cb')/\wz.cell? ⟨gb,j*5,none⟩=some (.int .i64 ta.p.1)/\wz.cell? ⟨gb,j*5+1,none⟩=some (.int .i64 ta.p.2)/\wz.cell? ⟨gb,j*5+2,none⟩=some (.int .i64 ta.ad)/\wz.cell? ⟨gb,j*5+3,none⟩=some (.string ta.ow)/\wz.cell? ⟨gb,j*5+4,none⟩=some (.slice pv ta.l.length cv):=fun hb=>
             ⟨(hb.cell (p:=⟨bx,0,none⟩) ab0.lt).trans x0,(hb.cell (p:=⟨bx,1,none⟩) ab0.lt).trans x1,(hb.cell (p:=⟨bx,2,none⟩) ab0.lt).trans x2,(hb.cell (p:=⟨bx,3,none⟩) ab0.lt).trans x3,(hb.cell (p:=⟨bx,4,none⟩) ab0.lt).trans x4,(hb.cell (p:=⟨Bx,3,none⟩) tb9.lt).trans v3,(hb.cell (p:=⟨gb,j*5,none⟩) hgb).trans y0,(hb.cell (p:=⟨gb,j*5+1,none⟩) hgb).trans y1,(hb.cell (p:=⟨gb,j*5+2,none⟩) hgb).trans y2,(hb.cell (p:=⟨gb,j*5+3,none⟩) hgb).trans y3,(hb.cell (p:=⟨gb,j*5+4,none⟩) hgb).trans y4⟩
            have hlt9:Bx<w9.heap.size:=tb9.lt
            clear x0 x1 x2 x3 x4 y0 y1 y2 y3 y4 v3 hw9 hbx hb9
            go_region_held3 (fun wz=>wz.cell? ⟨bx,0,none⟩=some (.int .i64 ta.p.1)/\wz.cell? ⟨bx,1,none⟩=some (.int .i64 ta.p.2)/\wz.cell? ⟨bx,2,none⟩=some (.int .i64 ta.ad)/\wz.cell? ⟨bx,3,none⟩=some (.string ta.ow)/\wz.cell? ⟨bx,4,none⟩=some (.slice pu ta.l.length cu)/\wz.cell? ⟨Bx,3,none⟩=some (.slice (some ⟨gb,0,none⟩) xtd.length cb')/\wz.cell? ⟨gb,j*5,none⟩=some (.int .i64 ta.p.1)/\wz.cell? ⟨gb,j*5+1,none⟩=some (.int .i64 ta.p.2)/\wz.cell? ⟨gb,j*5+2,none⟩=some (.int .i64 ta.ad)/\wz.cell? ⟨gb,j*5+3,none⟩=some (.string ta.ow)/\wz.cell? ⟨gb,j*5+4,none⟩=some (.slice pv ta.l.length cv))
             (with_reducible first|exact SX (below_self w9).drew|exact SX (below_self w9)|exact SX hb12)
             (first
              | (go_at_call 13;with_reducible refine (PS (below_self w9).drew).mono ?_;clear PS;rintro e w11 ⟨rfl,hb11⟩;have hb12:=below_via (below_self w9).drew hb11;have v4':=(hb12.cell (p:=⟨Bx,4,none⟩) hlt9).trans v4;have v5':=(hb12.cell (p:=⟨gc,j,none⟩) hgc).trans v5))
            clear SX v4 v5
            go_wp2
            go_quiet (fail)
            go_wp2
            exact⟨⟨j+1,o2,td2,_,by go_num,by omega,.inl (.inl hK7),ay3,s9.kn V (below_drewN hb12 _),tb9.step (below_drewN hb12 _)⟩,by simp[intOf];omega⟩
           ·rw[show decide (tf≠0)=true by simp[e0]] at v5
            rw[ee]
            clear ee e0
            go_upto_region 77 with fail
            rw[<- hw9]
            rw[<- hbx]
            have SX:∀ {wz:World},Below w9.heap.size w9 wz->wz.cell? ⟨bx,0,none⟩=some (.int .i64 ta.p.1)/\wz.cell? ⟨bx,1,none⟩=some (.int .i64 ta.p.2)/\wz.cell? ⟨bx,2,none⟩=some (.int .i64 ta.ad)/\wz.cell? ⟨bx,3,none⟩=some (.string ta.ow)/\wz.cell? ⟨bx,4,none⟩=some (.slice pu ta.l.length cu)/\wz.cell? ⟨Bx,3,none⟩=some (.slice (some ⟨gb,0,none⟩) xtd.length cb')/\wz.cell? ⟨gb,j*5,none⟩=some (.int .i64 ta.p.1)/\wz.cell? ⟨gb,j*5+1,none⟩=some (.int .i64 ta.p.2)/\wz.cell? ⟨gb,j*5+2,none⟩=some (.int .i64 ta.ad)/\wz.cell? ⟨gb,j*5+3,none⟩=some (.string ta.ow)/\wz.cell? ⟨gb,j*5+4,none⟩=some (.slice pv ta.l.length cv):=fun hb=>
             ⟨(hb.cell (p:=⟨bx,0,none⟩) ab0.lt).trans x0,(hb.cell (p:=⟨bx,1,none⟩) ab0.lt).trans x1,(hb.cell (p:=⟨bx,2,none⟩) ab0.lt).trans x2,(hb.cell (p:=⟨bx,3,none⟩) ab0.lt).trans x3,(hb.cell (p:=⟨bx,4,none⟩) ab0.lt).trans x4,(hb.cell (p:=⟨Bx,3,none⟩) tb9.lt).trans v3,(hb.cell (p:=⟨gb,j*5,none⟩) hgb).trans y0,(hb.cell (p:=⟨gb,j*5+1,none⟩) hgb).trans y1,(hb.cell (p:=⟨gb,j*5+2,none⟩) hgb).trans y2,(hb.cell (p:=⟨gb,j*5+3,none⟩) hgb).trans y3,(hb.cell (p:=⟨gb,j*5+4,none⟩) hgb).trans y4⟩
            have hlt9:Bx<w9.heap.size:=tb9.lt
            clear x0 x1 x2 x3 x4 y0 y1 y2 y3 y4 v3 hw9 hbx hb9
            go_region_held3 (fun wz=>wz.cell? ⟨bx,0,none⟩=some (.int .i64 ta.p.1)/\wz.cell? ⟨bx,1,none⟩=some (.int .i64 ta.p.2)/\wz.cell? ⟨bx,2,none⟩=some (.int .i64 ta.ad)/\wz.cell? ⟨bx,3,none⟩=some (.string ta.ow)/\wz.cell? ⟨bx,4,none⟩=some (.slice pu ta.l.length cu)/\wz.cell? ⟨Bx,3,none⟩=some (.slice (some ⟨gb,0,none⟩) xtd.length cb')/\wz.cell? ⟨gb,j*5,none⟩=some (.int .i64 ta.p.1)/\wz.cell? ⟨gb,j*5+1,none⟩=some (.int .i64 ta.p.2)/\wz.cell? ⟨gb,j*5+2,none⟩=some (.int .i64 ta.ad)/\wz.cell? ⟨gb,j*5+3,none⟩=some (.string ta.ow)/\wz.cell? ⟨gb,j*5+4,none⟩=some (.slice pv ta.l.length cv))
             (with_reducible first|exact SX (below_self w9).drew|exact SX (below_self w9)|exact SX hb12)
             (first
              | (go_at_call 13;with_reducible refine (PS (below_self w9).drew).mono ?_;clear PS;rintro e w11 ⟨rfl,hb11⟩;have hb12:=below_via (below_self w9).drew hb11;have v4':=(hb12.cell (p:=⟨Bx,4,none⟩) hlt9).trans v4;have v5':=(hb12.cell (p:=⟨gc,j,none⟩) hgc).trans v5))
            clear SX v4 v5
            go_wp2
            go_quiet (fail)
            go_wp2
            exact⟨⟨j+1,o2,td2,_,by go_num,by omega,.inl (.inl hK7),ay3,s9.kn V (below_drewN hb12 _),tb9.step (below_drewN hb12 _)⟩,by simp[intOf];omega⟩
          ·have hjl:Hid (j=xcs.length):=by show _=_;omega
           rw[hjl.out,List.take_of_length_le (Nat.le_refl _)] at ay
           have ew:o.own=xow:=by rw[ay.run];exact ownx'.out
           obtain⟨f1,f2,f3,f4⟩:=Ay.close hL90 hOm ay ew
           simp only at f2 f4
           rw[<- hm'] at f4
           have PM:=s7.close V zs ay.ok (ay.sm hwl (by omega)) ay.sp (by decide)
           rw[show ({ data:=#[122] }:ByteArray)=zs from rfl,f1,f2,f3,ev_0,show zs={ data:=#[122] } from rfl] at PM
           have g9:((n:Int) != (n:Int))=false:=by simp
           clear f1 f2 ew tb7 k0 k1 k3 k4
           go_wp2_with fail
           refine PM.mono ?_
           clear PM
           rintro e w10 ⟨rfl,s10,hb10⟩
           clear s7 hb10
           go_wp2
           exact⟨⟨r+1,m',_,_,by go_num,by omega,hst2,f4,s10⟩,by simp[intOf];omega⟩
        ·have hst2:Hid ((t=0/\Ad ov n (r+1) m) \/ (1<=t/\m=n)):=by
          rcases hst.out with ⟨g1,g2⟩|g
          ·exact .inl ⟨g1,g2.skip hov (fun q=>hcd (by rw[hcb,q.2,decide_eq_true g1]))⟩
          ·exact .inr g
         have hbt:((t:Int)==0) = !cb:=by
          by_cases c:t=0
          ·subst c
           cases h:cb
           ·rfl
           ·exact absurd (by rw[h];rfl) hcd
          ·rw[decide_eq_false c] at hcd
           cases h:cb
           ·exact absurd h hcd
           ·exact beq_eq_false_iff_ne.2 (by omega)
         have ax':Ax d.lg.ls m (120*n+60*t+(r+1)) a:=⟨ax.al,by have:=ax.ids;omega,ax.sp⟩
         cases cb
         ·rw[Bool.not_false] at hbt
          clear hst hcd hcb
          go_wp2_with (go_at_call 12;refine PC.mono ?_;clear PC;rintro e w5 ⟨rfl,hb5⟩)
          exact⟨⟨r+1,m,a,_,by go_num,by omega,hst2,ax',s4.kn V hb5⟩,by simp[intOf];omega⟩
         ·rw[Bool.not_true] at hbt
          clear hst hcd hcb
          go_wp2_with (go_at_call 12;refine PC.mono ?_;clear PC;rintro e w5 ⟨rfl,hb5⟩)
          exact⟨⟨r+1,m,a,_,by go_num,by omega,hst2,ax',s4.kn V hb5⟩,by simp[intOf];omega⟩
       ·have hst2:Hid ((t=0/\Ad ov n (r+1) m) \/ (1<=t/\m=n)):=by
         rcases hst.out with ⟨g1,g2⟩|g
         ·exact .inl ⟨g1,g2.skip hov (fun q=>hnum q.1)⟩
         ·exact .inr g
        have hne:(xn==(n:Int))=false:=beq_eq_false_iff_ne.2 hnum
        have hne2:(xn != (n:Int))=true:=by simpa using hnum
        have ax':Ax d.lg.ls m (120*n+60*t+(r+1)) a:=⟨ax.al,by have:=ax.ids;omega,ax.sp⟩
        clear hst PC
        go_wp2
        exact⟨⟨r+1,m,a,_,by go_num,by omega,hst2,ax',s4⟩,by simp[intOf];omega⟩
      ·have hst2:Hid ((t+1=0/\Ad ov n 0 m) \/ (1<=t+1/\m=n)):=by
        refine .inr ⟨by omega,?_⟩
        rcases hst.out with ⟨_,g⟩|g
        ·have er:r=ov.length:=by rw[<- hov0,List.length_map];omega
         rw[er] at g
         exact Ad.end sx (by rw[<- hL.out];exact hle) g
        ·exact g.2
       have ax':Ax d.lg.ls m (120*n+60*(t+1)) a:=⟨ax.al,by have:=ax.ids;omega,ax.sp⟩
       clear hst
       go_wp2
       exact⟨⟨t+1,m,a,K2,by go_num,by omega,hst2,ax',s3⟩,by simp[intOf];omega⟩
    ·have hmn:Hid ((n+1=0/\m=0) \/ m+1=n+1):=by
      rcases hst.out with g|g
      ·omega
      ·exact .inr (by omega)
     have ax':Ax d.lg.ls m (120*(n+1)) a:=⟨ax.al,by have:=ax.ids;omega,ax.sp⟩
     clear hst
     go_wp2
     exact⟨⟨n+1,m,a,K2,by go_num,by omega,hmn,ax',s3⟩,by simp[intOf];omega⟩
  ·have hmL:m=d.lg.ls.length:=by rw[<- hL.out];rcases hnm.out with g|g <;> omega
   subst hmL
   have hq1:Hid (allP a=allP d):=Ax.same sx ax
   have hgt:¬ ((n:Int)<=(L:Int)):=by omega
   have hal:=all_few sx.dp (by omega)
   have PA:=s2n.all V ax.al.ok (ax.sm hwl (by omega))
   clear hnm
   go_wp2_with fail
   refine PA.mono ?_
   clear PA
   rintro e w3 ⟨qa,ca,rfl,hca,hpa,hb3⟩
   have s4:=s2n.kn V hb3
   have PB:=s4.all2 V sx.dp.ok hsm
   go_wp2_with fail
   refine PB.mono ?_
   clear PB
   rintro e w4 ⟨qd,cd,rfl,hcd,hpd,hb4⟩
   have s5:=s4.kn V hb4
   rw[hq1.out] at hpa
   have PS:=samePairs (allP d) (allP d) qa qd ca cd w4 (by omega) (hpa.at.step hb4) hpd.at
   rw[decide_eq_true rfl] at PS
   rw[hq1.out]
   clear s4 s2n
   go_wp2_with fail
   refine PS.mono ?_
   clear PS
   rintro e w5 ⟨rfl,hb5⟩
   have bw:=below_via s5.h.bl hb5
   go_wp2
   go_ret
   exact⟨rfl,bw⟩
end Go.Proofs.YtmghmpclmphccaaGreatDoor.Pa
namespace Go.Proofs.YtmghmpclmphccaaGreatDoor.Pa
open Go.RowKit Go.Maps Vs
theorem ts_quit {T:Td} (V:DFace T) {K2 X:Nat->Prop} {k m1 m2 H bs:Nat} {d:Dk} {S:Ses} {p1 p2:Option Addr} {e1 e2:List Dt} {x:Hs} {kv:Int} {w w2:World} {Q:Exit->Act->World->Prop} {c0 c1 c2 c3 c5 c12 c13 c14 c15 c16 c17 c18 c19 c20 c21 c22 c23 c24 c25 c26 c27 c28 c29 c30 c31 c32 c33 c34 c35 c36 c37 c38 c39 c40 c41 c42 c43 c44 c45 c46 c47 c48 c49 c50 c51 c52 c53 c54 c55 c56 c57 c58 c59 c60 c61 c62 c63 c64 c65 c66 c67 c68 c69 c70 c71 c72 c73 c74 c75 c76 c77 c78 c79 c80 c81 c82 c83 c84 c85 c86 c87 c88 c89 c90 c91 c92 c93 c94 c95 c96 c97 c98 c99 c100 c101 c102 c103 c104 c105 c106 c107 c108 c109 c110 c111 c112 c113 c114 c115 c116 c117 c118 c119 c120 c121 c122 c123 c124 c125 c126 c127 c128 c129 c130 c131 c132 c133 c134 c135 c136 c137 c138 c139 c140 c141 c142 c143 c144 c145 c146 c147 c148 c149 c150 c151 c152 c153 c154 c155 c156 c157 c158 c159 c160 c161 c162 c163 c164 c165 c166 c167 c168 c169 c170 c171 c172 c173 c174 c175 c176 c177 c178 c179 c180 c181 c182 c183 c184 c185 c186 c187 c188 c189 c190 c191 c192 c193 c194 c195 c196 c197 c198 c199 c200 c201 c202 c203 c204 c205 c206 c207 c208 c209 c210 c211 c212 c213 c214 c215 c216 c217 c218 c219 c220 c221 c222 c223 c224 c225 c226 c227 c228 c229 c230 c231 c232 c233 c234 c235 c236 c237 c238 c239 c240 c241 c242 c243 c244 c245 c246 c247 c248 c249 c250 c251 c252 c253 c254 c255 c256 c257 c258 c259 c260 c261 c262 c263 c264 c265 c266 c267 c268 c269 c270 c271 c272 c273 c274 c275 c276 c277 c278 c279 c280 c281 c282 c283 c284 c285 c286 c287 c288 c289 c290 c291 c292 c293 c294 c295 c296 c297 c298:Value}
  (hlt60:k<60) (hel:e1.length<=8) (h1c:e1.length<=m1) (h1m:m1<=9223372036854775807) (hxo:HsOk x) (sx:Sx k d S (e1.map (·.x)) (e2.map (·.x))) (ts2:Ts T K2 X w w2 H d S (.slice p1 e1.length m1) (.slice p2 e2.length m2) e1 e2) (sb2:Hb w2 bs x) (hKs2:K2 bs) (F:Fnd e1 x.who e1.length kv) (w1:x.what=2)
  (hQ:∀ {ex:Exit} {d':Dk} {S':Ses} {v1' v2' v8':Value} {e1' e2':List Dt} {K' X':Nat->Prop} {w':World} {d13 d14 d15 d16 d17 d18 d19 d20 d21 d22 d23 d76 d77 d78 d79 d80 d81 d82 d83 d84 d85 d86 d87 d88 d89 d90 d91 d92 d93 d94 d95 d96 d97 d98 d99 d100 d101 d102 d103 d104 d105 d106 d107 d108 d109 d110 d111 d112 d113 d114 d115 d116 d117 d118 d119 d120 d121 d122 d123 d124 d125 d126 d127 d128 d129 d130 d131 d132 d133 d134 d135 d136 d137 d138 d139 d140 d141 d142 d143 d144 d145 d146 d147 d148 d149 d150 d151 d152 d153 d154 d155 d156 d157 d158 d159 d160 d161 d162 d163 d164 d165 d166 d167 d168 d169 d170 d171 d172 d173 d174 d175 d176 d177 d178 d179 d180 d181 d182 d183 d184 d185 d186 d187 d188 d189 d190 d191 d192 d193 d194 d195 d196 d197 d198 d199 d200 d201 d202 d203 d204:Value},(ex=.normal \/ ex=.exit 1)->v8'=.int .i64 (d'.lg.ls.length:Int)->Sx (k+1) d' S' (e1'.map (·.x)) (e2'.map (·.x))->Ts T K' X' w w' H d' S' v1' v2' e1' e2'->Q ex ⟨#[c0,c1,c2,c3,.pointer (some ⟨H,0,none⟩),c5,v1',v2',v8',.int .i64 (k:Int),.pointer (some ⟨bs,0,none⟩),.int .i64 kv,c12,d13,d14,d15,d16,d17,d18,d19,d20,d21,d22,d23,c24,c25,c26,c27,c28,c29,c30,c31,c32,c33,c34,c35,c36,c37,c38,c39,c40,c41,c42,c43,c44,c45,c46,c47,c48,c49,c50,c51,c52,c53,c54,c55,c56,c57,c58,c59,c60,c61,c62,c63,c64,c65,c66,c67,c68,c69,c70,c71,c72,c73,c74,c75,d76,d77,d78,d79,d80,d81,d82,d83,d84,d85,d86,d87,d88,d89,d90,d91,d92,d93,d94,d95,d96,d97,d98,d99,d100,d101,d102,d103,d104,d105,d106,d107,d108,d109,d110,d111,d112,d113,d114,d115,d116,d117,d118,d119,d120,d121,d122,d123,d124,d125,d126,d127,d128,d129,d130,d131,d132,d133,d134,d135,d136,d137,d138,d139,d140,d141,d142,d143,d144,d145,d146,d147,d148,d149,d150,d151,d152,d153,d154,d155,d156,d157,d158,d159,d160,d161,d162,d163,d164,d165,d166,d167,d168,d169,d170,d171,d172,d173,d174,d175,d176,d177,d178,d179,d180,d181,d182,d183,d184,d185,d186,d187,d188,d189,d190,d191,d192,d193,d194,d195,d196,d197,d198,d199,d200,d201,d202,d203,d204,c205,c206,c207,c208,c209,c210,c211,c212,c213,c214,c215,c216,c217,c218,c219,c220,c221,c222,c223,c224,c225,c226,c227,c228,c229,c230,c231,c232,c233,c234,c235,c236,c237,c238,c239,c240,c241,c242,c243,c244,c245,c246,c247,c248,c249,c250,c251,c252,c253,c254,c255,c256,c257,c258,c259,c260,c261,c262,c263,c264,c265,c266,c267,c268,c269,c270,c271,c272,c273,c274,c275,c276,c277,c278,c279,c280,c281,c282,c283,c284,c285,c286,c287,c288,c289,c290,c291,c292,c293,c294,c295,c296,c297,c298],[]⟩ w') :
  Code.wp Tryz.prog (dropSeq 3 (tsIn (Tryz.f3.body.getD .skip))) Q ⟨#[c0,c1,c2,c3,.pointer (some ⟨H,0,none⟩),c5,.slice p1 e1.length m1,.slice p2 e2.length m2,.int .i64 (d.lg.ls.length:Int),.int .i64 (k:Int),.pointer (some ⟨bs,0,none⟩),.int .i64 kv,c12,c13,c14,c15,c16,c17,c18,c19,c20,c21,c22,c23,c24,c25,c26,c27,c28,c29,c30,c31,c32,c33,c34,c35,c36,c37,c38,c39,c40,c41,c42,c43,c44,c45,c46,c47,c48,c49,c50,c51,c52,c53,c54,c55,c56,c57,c58,c59,c60,c61,c62,c63,c64,c65,c66,c67,c68,c69,c70,c71,c72,c73,c74,c75,c76,c77,c78,c79,c80,c81,c82,c83,c84,c85,c86,c87,c88,c89,c90,c91,c92,c93,c94,c95,c96,c97,c98,c99,c100,c101,c102,c103,c104,c105,c106,c107,c108,c109,c110,c111,c112,c113,c114,c115,c116,c117,c118,c119,c120,c121,c122,c123,c124,c125,c126,c127,c128,c129,c130,c131,c132,c133,c134,c135,c136,c137,c138,c139,c140,c141,c142,c143,c144,c145,c146,c147,c148,c149,c150,c151,c152,c153,c154,c155,c156,c157,c158,c159,c160,c161,c162,c163,c164,c165,c166,c167,c168,c169,c170,c171,c172,c173,c174,c175,c176,c177,c178,c179,c180,c181,c182,c183,c184,c185,c186,c187,c188,c189,c190,c191,c192,c193,c194,c195,c196,c197,c198,c199,c200,c201,c202,c203,c204,c205,c206,c207,c208,c209,c210,c211,c212,c213,c214,c215,c216,c217,c218,c219,c220,c221,c222,c223,c224,c225,c226,c227,c228,c229,c230,c231,c232,c233,c234,c235,c236,c237,c238,c239,c240,c241,c242,c243,c244,c245,c246,c247,c248,c249,c250,c251,c252,c253,c254,c255,c256,c257,c258,c259,c260,c261,c262,c263,c264,c265,c266,c267,c268,c269,c270,c271,c272,c273,c274,c275,c276,c277,c278,c279,c280,c281,c282,c283,c284,c285,c286,c287,c288,c289,c290,c291,c292,c293,c294,c295,c296,c297,c298],[]⟩ w2:=by
 conv=>arg 2;whnf
 have cz0:=sb2 0 _ rfl
 have cz1:=sb2 1 _ rfl
 have cz2:=sb2 2 _ rfl
 have cz3:=sb2 3 _ rfl
 have cz4:=sb2 4 _ rfl
 have cz5:=sb2 5 _ rfl
 have cz6:=sb2 6 _ rfl
 have cz7:=sb2 7 _ rfl
 have cz8:=sb2 8 _ rfl
 have cz9:=sb2 9 _ rfl
 have eq0:(x.what==0)=false:=by simp;omega
 have eq1:(x.what==1)=false:=by simp;omega
 have eq2:(x.what==2)=true:=by simp;omega
 clear w1
 rcases F with ⟨rfl,hno⟩|⟨j,y,hj,hy,hyw,rfl⟩
 ·clear hno
  go_wp2
  exact hQ (by first|exact .inl rfl|exact .inr rfl) (by first|rfl|(rfl)) (sx.more) ts2
 ·have hj':(j:Int)<(e1.length:Int):=by omega
  have hj0:decide ((j:Int)<0)=false:=by simp
  have hcp:(j:Int)<=(m1:Int):=by omega
  have hcp1:(j:Int)+1<=(m1:Int):=by omega
  have hcp2:(j:Int)+1<=(e1.length:Int):=by omega
  obtain⟨g,eg,hgl,hKg,b0,b1,b2,b3,b4⟩:=ts2.r1.at hy
  cases eg
  have hym:=List.mem_of_getElem? hy
  have hyx:(e1.map (·.x))[j]? = some y.x:=by rw[List.getElem?_map,hy];rfl
  have dq:=ts2.r1.each _ hym
  obtain⟨⟨yw,yn,ycs,ytd,yow⟩,va,vb,vc,us⟩:=y
  have hyw':yw=x.who:=hyw
  subst hyw'
  obtain⟨pa,ca,ea,ha1,ha2⟩:=dq.a.form
  obtain⟨pb,cb,eb,hb1,hb2⟩:=dq.b.form
  obtain⟨pc,cc,ec,hc1,hc2⟩:=dq.c.form
  simp only at ea eb ec b0 b1 b2 b3 b4
  subst ea eb ec
  have hbA:=below_al (below_self w2) (.cells #[.string x.who,.int .i64 yn,.slice pa ycs.length ca,.slice pb ytd.length cb,.slice pc ytd.length cc] 40)
  have tb0:=Tb.new w2 40 ⟨⟨x.who,yn,ycs,ytd,yow⟩,.slice pa ycs.length ca,.slice pb ytd.length cb,.slice pc ytd.length cc,us⟩
  obtain⟨wA,hwA⟩:∃ wA,wA=w2.alloc (.cells #[.string x.who,.int .i64 yn,.slice pa ycs.length ca,.slice pb ytd.length cb,.slice pc ytd.length cc] 40):=⟨_,rfl⟩
  have fbA:wA.frozen? ⟨w2.heap.size,1,none⟩=false:=by rw[hwA];simp
  rw[<- hwA] at hbA tb0
  have tsA:=ts2.kn V hbA
  have dqA:=dq.but (E:=fun _=>False) (X':=X) (.below hbA) (fun _ _=>id) (fun _ _ g=>g)
  have sbA:=sb2.step hbA
  have hKA:Kn K2 w2 wA w2.heap.size:=.inr ⟨Nat.le_refl _,tb0.lt⟩
  have hXA:¬ X w2.heap.size:=fun hX=>by have:=ts2.h.kl _ (ts2.xk _ hX);omega
  have hvA:(Value.slice p2 e2.length m2).ownBlock≠some w2.heap.size:=fun hv=>by have:=(op_lt ts2.r2.row hv).2;omega
  have hwB:w.heap.size<=w2.heap.size:=ts2.h.bl.size
  have hKs3:Kn K2 w2 wA bs:=.inl hKs2
  obtain⟨Bx,hBx⟩:∃ Bx,Bx=w2.heap.size:=⟨_,rfl⟩
  rw[<- hBx] at tb0 fbA hKA hXA hvA hwB
  obtain⟨KA,hKA'⟩:∃ KA,KA=Kn K2 w2 wA:=⟨_,rfl⟩
  rw[<- hKA'] at tsA hKA hKs3
  go_upto_region 39 with fail
  go_cut [14] from 158 to 161 (fun v14 wy=>v14=.pointer (some ⟨Bx,0,none⟩)/\wy=wA)
  case first=>
   go_wp2
   go_meet
   case rel=>exact⟨by rw[hBx],hwA.symm⟩
  case rest=>
  obtain⟨rfl,rfl⟩:=hcut
  obtain⟨wy,rfl⟩:∃ wy,wy=wc:=⟨wc,rfl⟩
  refine ‹∀ (a:Act) (w:World),Code.wp _ _ _ a w->_› _ _ ?_
  have hglA:=Nat.lt_of_lt_of_le hgl hbA.size
  clear hwA hBx hKA' hbA ts2 sb2 dq cz0 cz1 cz2 cz3 cz4 cz5 cz6 cz7 cz8 cz9 b0 b1 b2 b3 b4 hKs2 hKg hgl
  go_upto_region 42 with (at_builtin;refine wpList_append_at 29 40 5 96 _ Tryz.underlying29 infoTk rfl (by decide) (by decide) rfl _ _ rfl wy.heap.size _ 0 [] rfl (World.ownsRow_nil _ _ _ _) (Nat.le_refl _) g 0 j m1 ((e1.take j).flatMap encT) rfl (by rw[encT_len,List.length_take];omega) (fun i u hi=>by rw[Nat.zero_add,tsA.r1.row.cellAt i (by have:=(List.getElem?_eq_some_iff.1 hi).1;rw[encT_len,List.length_take] at this;omega)];exact fl_take hi) (fl_one (fun e he=>tsA.r1.each e (List.mem_of_mem_take he))) (by omega) ?_;intro v4 w4 own4 hg4 hat4;have hbB:Below wy.heap.size wy w4:=(Below.refl _ _).grown hg4 (Nat.le_refl _) (fun k e=>by cases e))
  go_cut [6] from 167 to 172 (fun v1 wz=>∃ K6:Nat->Prop,Ts T K6 X w wz H d S v1 (.slice p2 e2.length m2) (e1.eraseIdx j) e2/\Tb wz Bx ⟨⟨x.who,yn,ycs,ytd,yow⟩,.slice pa ycs.length ca,.slice pb ytd.length cb,.slice pc ytd.length cc,us⟩/\DtOk X wz ⟨⟨x.who,yn,ycs,ytd,yow⟩,.slice pa ycs.length ca,.slice pb ytd.length cb,.slice pc ytd.length cc,us⟩/\wz.frozen? ⟨Bx,1,none⟩=false/\K6 Bx/\K6 bs/\v1.ownBlock≠some Bx/\Hb wz bs x)
  case first=>
   by_cases hcap:j+1<m1
   ·go_wp2_with (at_builtin;refine wpList_append_at 29 40 5 96 _ Tryz.underlying29 infoTk rfl (by decide) (by decide) rfl _ _ rfl wy.heap.size _ (0+j) ([]++(e1.take j).flatMap encT) rfl own4 hbB.size g ((j+1)*5) _ _ ((e1.drop (j+1)).flatMap encT) rfl (by rw[encT_len,List.length_drop]) (fun i u hi=>by rw[(hbB.cell (p:=⟨g,(j+1)*5+i,none⟩) hglA),tsA.r1.row.cellAt _ (by have:=(List.getElem?_eq_some_iff.1 hi).1;rw[encT_len,List.length_drop] at this;omega)];exact fl_drop (by omega) hi) (fl_one (fun e he=>tsA.r1.each e (List.mem_of_mem_drop he))) (by omega) ?_;intro v5 w5 own5 hg5 hat5)
    go_meet
    case rel=>
     have hbC:Below wy.heap.size wy w5:=hbB.grown hg5 hbB.size (fun k e=>(own4.lt k e).1)
     have ts3:=tsA.kn V hbC
     have row5:w5.ownsRow wy.heap.size 40 5 v5 (e1.eraseIdx j).length ((e1.eraseIdx j).flatMap encT):=by rw[List.eraseIdx_eq_take_drop_succ,List.length_append,List.length_take,List.length_drop,List.flatMap_append,Nat.min_eq_left (by omega)];rw[Nat.zero_add,List.nil_append] at own5;exact own5
     have ts4:=ts3.swap (es:=e1.eraseIdx j) row5 tsA.h.bl.size (fun i h1 h2=>⟨.inr ⟨h1,h2⟩,fun hX=>by have:=tsA.h.kl i (tsA.xk i hX);omega,fun hv=>by have:=(op_lt tsA.r2.row hv).2;omega⟩) (fun e he=>ts3.r1.each e (List.mem_of_mem_eraseIdx he))
     exact⟨_,ts4,tb0.step hbC,dqA.but (E:=fun _=>False) (X':=X) (.below hbC) (fun _ _=>id) (fun _ _ g=>g),(hbC.frozen (p:=⟨Bx,1,none⟩) tb0.lt).trans fbA,.inl hKA,.inl hKs3,fun hv=>by have:=(op_lt row5 hv).1;have:=tb0.lt;omega,sbA.step hbC⟩
   ·have hcap':m1<=j+1:=by omega
    clear hcap
    go_wp2_with (at_builtin;refine wpList_append_at 29 40 5 96 _ Tryz.underlying29 infoTk rfl (by decide) (by decide) rfl _ _ rfl wy.heap.size _ (0+j) ([]++(e1.take j).flatMap encT) rfl own4 hbB.size g 0 _ _ ((e1.drop (j+1)).flatMap encT) rfl (by rw[encT_len,List.length_drop]) (fun i u hi=>by have:=(List.getElem?_eq_some_iff.1 hi).1;rw[encT_len,List.length_drop] at this;omega) (fl_one (fun e he=>tsA.r1.each e (List.mem_of_mem_drop he))) (by omega) ?_;intro v5 w5 own5 hg5 hat5)
    go_meet
    case rel=>
     have hbC:Below wy.heap.size wy w5:=hbB.grown hg5 hbB.size (fun k e=>(own4.lt k e).1)
     have ts3:=tsA.kn V hbC
     have row5:w5.ownsRow wy.heap.size 40 5 v5 (e1.eraseIdx j).length ((e1.eraseIdx j).flatMap encT):=by rw[List.eraseIdx_eq_take_drop_succ,List.length_append,List.length_take,List.length_drop,List.flatMap_append,Nat.min_eq_left (by omega)];rw[Nat.zero_add,List.nil_append] at own5;exact own5
     have ts4:=ts3.swap (es:=e1.eraseIdx j) row5 tsA.h.bl.size (fun i h1 h2=>⟨.inr ⟨h1,h2⟩,fun hX=>by have:=tsA.h.kl i (tsA.xk i hX);omega,fun hv=>by have:=(op_lt tsA.r2.row hv).2;omega⟩) (fun e he=>ts3.r1.each e (List.mem_of_mem_eraseIdx he))
     exact⟨_,ts4,tb0.step hbC,dqA.but (E:=fun _=>False) (X':=X) (.below hbC) (fun _ _=>id) (fun _ _ g=>g),(hbC.frozen (p:=⟨Bx,1,none⟩) tb0.lt).trans fbA,.inl hKA,.inl hKs3,fun hv=>by have:=(op_lt row5 hv).1;have:=tb0.lt;omega,sbA.step hbC⟩
  case rest=>
  obtain⟨K6,ts4,tb5,dq5,fb5,hK5,hKs5,hv15,sb5⟩:=hcut
  refine ‹∀ (a:Act) (w:World),Code.wp _ _ _ a w->_› _ _ ?_
  clear tsA dqA sbA tb0 fbA hKA hKs3 own4 hg4 hat4 hbB hglA
  have cz0:=sb5 0 _ rfl
  have cz1:=sb5 1 _ rfl
  obtain⟨hf,sx2⟩:=sx.quit hyx
  have kq:=(kq_quit d S x.who).ls
  simp only at hf sx2
  have P1:=ts4.h.quit V x.who sx.dp (by omega) hxo.who
  rw[hf,ev_0] at P1
  clear hf tb5 dq5 fb5 hv15 hXA hvA hwB
  go_wp2_with fail
  refine P1.mono ?_
  clear P1
  rintro e w6 ⟨rfl,h6,hb6⟩
  have ts5:=ts4.op h6 hb6
  clear h6 hb6 ts4
  go_wp2
  exact hQ (by first|exact .inl rfl|exact .inr rfl) (by first|rfl|(rw[kq])) (by rw[map_er];exact sx2) ts5
end Go.Proofs.YtmghmpclmphccaaGreatDoor.Pa
namespace Go.Proofs.YtmghmpclmphccaaGreatDoor.Pa
open Go.RowKit Go.Maps Vs
section
variable {T:Td} {w wx:World} {H:Nat}
theorem ts_loop (V:DFace T) {l:List Hs} {pl:Option Addr} {cl:Nat} {c1 c2 c3 c5 c6 c7 c8 c9 c10 c11 c12 c13 c14 c15 c16 c17 c18 c19 c20 c21 c22 c23 c24 c25 c26 c27 c28 c29 c30 c31 c32 c33 c34 c35 c36 c37 c38 c39 c40 c41 c42 c43 c44 c45 c46 c47 c48 c49 c50 c51 c52 c53 c54 c55 c56 c57 c58 c59 c60 c61 c62 c63 c64 c65 c66 c67 c68 c69 c70 c71 c72 c73 c74 c75 c76 c77 c78 c79 c80 c81 c82 c83 c84 c85 c86 c87 c88 c89 c90 c91 c92 c93 c94 c95 c96 c97 c98 c99 c100 c101 c102 c103 c104 c105 c106 c107 c108 c109 c110 c111 c112 c113 c114 c115 c116 c117 c118 c119 c120 c121 c122 c123 c124 c125 c126 c127 c128 c129 c130 c131 c132 c133 c134 c135 c136 c137 c138 c139 c140 c141 c142 c143 c144 c145 c146 c147 c148 c149 c150 c151 c152 c153 c154 c155 c156 c157 c158 c159 c160 c161 c162 c163 c164 c165 c166 c167 c168 c169 c170 c171 c172 c173 c174 c175 c176 c177 c178 c179 c180 c181 c182 c183 c184 c185 c186 c187 c188 c189 c190 c191 c192 c193 c194 c195 c196 c197 c198 c199 c200 c201 c202 c203 c204 c205 c206 c207 c208 c209 c210 c211 c212 c213 c214 c215 c216 c217 c218 c219 c220 c221 c222 c223 c224 c225 c226 c227 c228 c229 c230 c231 c232 c233 c234 c235 c236 c237 c238 c239 c240 c241 c242 c243 c244 c245 c246 c247 c248 c249 c250 c251 c252 c253 c254 c255 c256 c257 c258 c259 c260 c261 c262 c263 c264 c265 c266 c267 c268 c269 c270 c271 c272 c273 c274 c275 c276 c277 c278 c279 c280 c281 c282 c283 c284 c285 c286 c287 c288 c289 c290 c291 c292 c293 c294 c295 c296 c297 c298:Value} (hll:l.length<=9223372036854775807) (hs:HsAt w pl l) (hok:∀ x∈l,HsOk x) (en:En w) (h:H1 T w (fun j=>j<w.heap.size) wx H (dk0 100000) []) :
  Code.wp Tryz.prog (dropSeq 4 (Tryz.f3.body.getD .skip)) (bodyPost Tryz.prog Tryz.f3 fun e w'=>e=.returned (.bool true)/\Below w.heap.size w w') ⟨#[.slice pl l.length cl,c1,c2,c3,.pointer (some ⟨H,0,none⟩),c5,c6,c7,c8,c9,c10,c11,c12,c13,c14,c15,c16,c17,c18,c19,c20,c21,c22,c23,c24,c25,c26,c27,c28,c29,c30,c31,c32,c33,c34,c35,c36,c37,c38,c39,c40,c41,c42,c43,c44,c45,c46,c47,c48,c49,c50,c51,c52,c53,c54,c55,c56,c57,c58,c59,c60,c61,c62,c63,c64,c65,c66,c67,c68,c69,c70,c71,c72,c73,c74,c75,c76,c77,c78,c79,c80,c81,c82,c83,c84,c85,c86,c87,c88,c89,c90,c91,c92,c93,c94,c95,c96,c97,c98,c99,c100,c101,c102,c103,c104,c105,c106,c107,c108,c109,c110,c111,c112,c113,c114,c115,c116,c117,c118,c119,c120,c121,c122,c123,c124,c125,c126,c127,c128,c129,c130,c131,c132,c133,c134,c135,c136,c137,c138,c139,c140,c141,c142,c143,c144,c145,c146,c147,c148,c149,c150,c151,c152,c153,c154,c155,c156,c157,c158,c159,c160,c161,c162,c163,c164,c165,c166,c167,c168,c169,c170,c171,c172,c173,c174,c175,c176,c177,c178,c179,c180,c181,c182,c183,c184,c185,c186,c187,c188,c189,c190,c191,c192,c193,c194,c195,c196,c197,c198,c199,c200,c201,c202,c203,c204,c205,c206,c207,c208,c209,c210,c211,c212,c213,c214,c215,c216,c217,c218,c219,c220,c221,c222,c223,c224,c225,c226,c227,c228,c229,c230,c231,c232,c233,c234,c235,c236,c237,c238,c239,c240,c241,c242,c243,c244,c245,c246,c247,c248,c249,c250,c251,c252,c253,c254,c255,c256,c257,c258,c259,c260,c261,c262,c263,c264,c265,c266,c267,c268,c269,c270,c271,c272,c273,c274,c275,c276,c277,c278,c279,c280,c281,c282,c283,c284,c285,c286,c287,c288,c289,c290,c291,c292,c293,c294,c295,c296,c297,c298],[]⟩ wx:=by
 conv=>arg 2;whnf
 have ts0:Ts T (fun j=>j<w.heap.size) (fun _=>False) w wx H (dk0 100000) [] (.slice none 0 0) (.slice none 0 0) [] []:=⟨h,fun j h=>h.elim,OwnT.nil _ _ _ _,OwnT.nil _ _ _ _,fun j h=>by cases h⟩
 go_upto_block 0 with fail
 go_cut [6,7,8,9,10,11,12,13,14,15,16,17,18,19,20,21,22,23] from 47 to 204 (fun _ v2 v8 _ _ _ _ _ _ _ _ _ _ _ _ _ _ _ wy=>∃ (k:Nat) (d:Dk) (S:Ses) (v1:Value) (e1 e2:List Dt) (K X:Nat->Prop),k<=60/\v8=.int .i64 (d.lg.ls.length:Int)/\Sx k d S (e1.map (·.x)) (e2.map (·.x))/\Ts T K X w wy H d S v1 v2 e1 e2)
 case rest=>
  obtain⟨k,d,S,v1,e1,e2,K,X,hk,rfl,sx,ts⟩:=hcut
  refine ‹∀ (a:Act) (w:World),Code.wp _ _ _ a w->_› _ _ ?_
  exact ts_alone V sx hk ts
 case first=>
 go_wp2_with fail
 go_loopw [6,7,8,9] (fun v1 v2 v8 i wr=>∃ (k:Nat) (d:Dk) (S:Ses) (e1 e2:List Dt) (K X:Nat->Prop),k<=l.length/\k<=60/\i=.int .i64 k/\v8=.int .i64 (d.lg.ls.length:Int)/\Sx k d S (e1.map (·.x)) (e2.map (·.x))/\Ts T K X w wr H d S v1 v2 e1 e2) (fun _ _ _ i _=>l.length - (intOf i).toNat)
 case atStart=>exact⟨0,_,_,[],[],_,_,by omega,by omega,rfl,rfl,Sx.new,ts0⟩
 case round=>
  clear ts0
  obtain⟨k,d,S,e1,e2,K,X,hk,hk60,rfl,rfl,sx,ts⟩:=hrel
  obtain⟨p1,m1,rfl,h1c,h1m⟩:=ts.r1.form
  obtain⟨p2,m2,rfl,h2c,h2m⟩:=ts.r2.form
  by_cases hlt:k<l.length/\k<60
  ·obtain⟨hlt,hlt60⟩:=hlt
   have hlt':(k:Int)<(l.length:Int):=by omega
   have hlt60':(k:Int)<60:=by omega
   obtain⟨b,off,rfl,hbl,hc⟩:=(hs.step ts.h.bl) (by omega)
   obtain⟨x,hx⟩:∃ x,l[k]? = some x:=⟨l[k],List.getElem?_eq_getElem hlt⟩
   have hxo:HsOk x:=hok x (List.mem_of_getElem? hx)
   have r:=hc k x hx
   have r0:=r 0 _ rfl
   rw[show off+(k*10+0)=off+k*10 by omega] at r0
   have r1:=r 1 _ rfl
   rw[show off+(k*10+1)=off+k*10+1 by omega] at r1
   have r2:=r 2 _ rfl
   rw[show off+(k*10+2)=off+k*10+2 by omega] at r2
   have r3:=r 3 _ rfl
   rw[show off+(k*10+3)=off+k*10+3 by omega] at r3
   have r4:=r 4 _ rfl
   rw[show off+(k*10+4)=off+k*10+4 by omega] at r4
   have r5:=r 5 _ rfl
   rw[show off+(k*10+5)=off+k*10+5 by omega] at r5
   have r6:=r 6 _ rfl
   rw[show off+(k*10+6)=off+k*10+6 by omega] at r6
   have r7:=r 7 _ rfl
   rw[show off+(k*10+7)=off+k*10+7 by omega] at r7
   have r8:=r 8 _ rfl
   rw[show off+(k*10+8)=off+k*10+8 by omega] at r8
   have r9:=r 9 _ rfl
   rw[show off+(k*10+9)=off+k*10+9 by omega] at r9
   have hb0:=below_al (below_self wr) (.cells #[.int .i64 x.what,.string x.who,.int .i64 x.n,.int .i64 x.c.what,.string x.c.nm,.int .i64 x.c.p.1,.int .i64 x.c.p.2,.int .i64 x.c.len,.int .i64 x.c.ad,.string x.c.ow] 35)
   have ts1:=ts.kn V hb0
   have sb:=Hb.new wr 35 x
   have hel:e1.length<=8:=by have h1:=sx.len;have h2:=sx.dp.ok.few;rw[List.length_map] at h1;omega
   have hel2:e2.length<=60:=by have h1:=sx.nv;rw[List.length_map] at h1;omega
   have hlsl:=sx.ls
   clear r hc hx hs ts hb0
   go_upto_block 2 with fail
   obtain⟨W,hW⟩:∃ W,W=wr.alloc (.cells #[.int .i64 x.what,.string x.who,.int .i64 x.n,.int .i64 x.c.what,.string x.c.nm,.int .i64 x.c.p.1,.int .i64 x.c.p.2,.int .i64 x.c.len,.int .i64 x.c.ad,.string x.c.ow] 35):=⟨_,rfl⟩
   obtain⟨bs,hbs⟩:∃ bs,bs=wr.heap.size:=⟨_,rfl⟩
   rw[<- hW] at ts1 sb ⊢
   rw[<- hbs] at sb ⊢
   have hKs:Kn K wr W bs:=.inr ⟨by omega,sb.lt⟩
   generalize Kn K wr W=K1 at ts1 hKs
   clear hW hbs r0 r1 r2 r3 r4 r5 r6 r7 r8 r9
   go_cut [11,12] from 61 to 75 (fun v11 _ wq=>∃ kv:Int,v11=.int .i64 kv/\Fnd e1 x.who e1.length kv/\Below W.heap.size W wq)
   case first=>
    go_wp2_with fail
    go_loopw [11,12] (fun v11 v12 wq=>∃ (n:Nat) (kv:Int),n<=e1.length/\v12=.int .i64 n/\v11=.int .i64 kv/\Fnd e1 x.who n kv/\Below W.heap.size W wq) (fun _ v12 _=>e1.length - (intOf v12).toNat)
    case atStart=>exact⟨0,-1,by omega,rfl,rfl,.inl ⟨rfl,fun i e hi=>by omega⟩,below_self W⟩
    case round=>
     obtain⟨n,kv,hn,rfl,rfl,F,hbq⟩:=hrel
     by_cases hlt:n<e1.length
     ·have hlt':(n:Int)<(e1.length:Int):=by omega
      obtain⟨y,hy⟩:∃ y,e1[n]? = some y:=⟨e1[n],List.getElem?_eq_getElem hlt⟩
      obtain⟨g,eg,hgl,-,b0,-⟩:=ts1.r1.at hy
      cases eg
      have cz0:=(hbq.cell (p:=⟨g,n*5,none⟩) hgl).trans b0
      have cz1:=(hbq.cell (p:=⟨bs,1,none⟩) sb.lt).trans (sb 1 _ rfl)
      by_cases hw:y.x.who=x.who
      ·have g1:(y.x.who.toList==x.who.toList)=true:=by rw[Vs.beq_str];simpa using hw
       have F2:=Fnd.hit hy hw
       clear F hy hw ts1 sb b0
       go_wp2
       go_quiet (fail)
       go_wp2
       exact⟨⟨n+1,n,by omega,by go_num,rfl,F2,below_drewN hbq _⟩,by simp[intOf];omega⟩
      ·have g1:(y.x.who.toList==x.who.toList)=false:=by rw[Vs.beq_str];simpa using hw
       have F2:=F.miss hy hw
       clear F hy hw ts1 sb b0
       go_wp2
       go_quiet (fail)
       go_wp2
       exact⟨⟨n+1,kv,by omega,by go_num,rfl,F2,below_drewN hbq _⟩,by simp[intOf];omega⟩
     ·have hne:n=e1.length:=by omega
      subst hne
      clear ts1 sb
      go_wp2
      go_meet
      case rel=>exact⟨kv,rfl,F,hbq⟩
   case rest=>
   obtain⟨kv,rfl,F,hbq⟩:=hcut
   obtain⟨w2,rfl⟩:∃ w2,w2=wc:=⟨wc,rfl⟩
   have ts2:=ts1.kn V hbq
   have sb2:=sb.step hbq
   have hKs2:Kn K1 W w2 bs:=.inl hKs
   generalize Kn K1 W w2=K2 at ts2 hKs2
   clear ts1 sb hKs
   refine ‹∀ (a:Act) (w:World),Code.wp _ _ _ a w->_› _ _ ?_
   by_cases w0:x.what=0
   ·refine ts_open V en hlt60 hel hxo sx ts2 sb2 hKs2 w0 ?_
    intro ex d' S' v1' v2' v8' e1' e2' K' X' w'
    intros
    rename_i hex h8 sx' ts'
    subst h8
    rcases hex with rfl|rfl
    ·go_wp2
     exact⟨⟨k+1,d',S',e1',e2',K',X',by omega,by omega,by go_num,rfl,sx',ts'⟩,by simp[intOf];omega⟩
    ·go_wp2
     exact⟨⟨k+1,d',S',e1',e2',K',X',by omega,by omega,by go_num,rfl,sx',ts'⟩,by simp[intOf];omega⟩
   by_cases w1:x.what=1
   ·refine ts_close V en hlt60 hel hel2 h1c h1m hxo sx ts2 sb2 hKs2 F w1 ?_
    intro ex d' S' v1' v2' v8' e1' e2' K' X' w'
    intros
    rename_i hex h8 sx' ts'
    subst h8
    rcases hex with rfl|rfl
    ·go_wp2
     exact⟨⟨k+1,d',S',e1',e2',K',X',by omega,by omega,by go_num,rfl,sx',ts'⟩,by simp[intOf];omega⟩
    ·go_wp2
     exact⟨⟨k+1,d',S',e1',e2',K',X',by omega,by omega,by go_num,rfl,sx',ts'⟩,by simp[intOf];omega⟩
   by_cases w2':x.what=2
   ·refine ts_quit V hlt60 hel h1c h1m hxo sx ts2 sb2 hKs2 F w2' ?_
    intro ex d' S' v1' v2' v8' e1' e2' K' X' w'
    intros
    rename_i hex h8 sx' ts'
    subst h8
    rcases hex with rfl|rfl
    ·go_wp2
     exact⟨⟨k+1,d',S',e1',e2',K',X',by omega,by omega,by go_num,rfl,sx',ts'⟩,by simp[intOf];omega⟩
    ·go_wp2
     exact⟨⟨k+1,d',S',e1',e2',K',X',by omega,by omega,by go_num,rfl,sx',ts'⟩,by simp[intOf];omega⟩
   by_cases w3:x.what=3 \/ x.what=4 \/ x.what=5
   ·refine ts_idle sx ts2 sb2 w3 ?_
    intro ex d' S' v1' v2' v8' e1' e2' K' X' w'
    intros
    rename_i hex h8 sx' ts'
    subst h8
    rcases hex with rfl|rfl
    ·go_wp2
     exact⟨⟨k+1,d',S',e1',e2',K',X',by omega,by omega,by go_num,rfl,sx',ts'⟩,by simp[intOf];omega⟩
    ·go_wp2
     exact⟨⟨k+1,d',S',e1',e2',K',X',by omega,by omega,by go_num,rfl,sx',ts'⟩,by simp[intOf];omega⟩
   ·refine ts_asks V en hlt60 hxo sx ts2 sb2 hKs2 F (by omega) ?_
    intro ex d' S' v1' v2' v8' e1' e2' K' X' w'
    intros
    rename_i hex h8 sx' ts'
    subst h8
    rcases hex with rfl|rfl
    ·go_wp2
     exact⟨⟨k+1,d',S',e1',e2',K',X',by omega,by omega,by go_num,rfl,sx',ts'⟩,by simp[intOf];omega⟩
    ·go_wp2
     exact⟨⟨k+1,d',S',e1',e2',K',X',by omega,by omega,by go_num,rfl,sx',ts'⟩,by simp[intOf];omega⟩
  ·by_cases h1:k<l.length
   ·have g1:decide ((k:Int)<(l.length:Int))=true:=by simp;omega
    have g2:decide ((k:Int)<60)=false:=by simp;omega
    go_wp2_with fail
    go_meet
    case rel=>exact⟨k,d,S,_,e1,e2,K,X,hk60,rfl,sx,ts⟩
   ·have g1:decide ((k:Int)<(l.length:Int))=false:=by simp;omega
    go_wp2_with fail
    go_meet
    case rel=>exact⟨k,d,S,_,e1,e2,K,X,hk60,rfl,sx,ts⟩
end
end Go.Proofs.YtmghmpclmphccaaGreatDoor.Pa
namespace Go.Proofs.YtmghmpclmphccaaGreatDoor.Pa
open Go.RowKit Go.Maps Vs
theorem law_serial {T:Td} (V:DFace T) (l:List Hs) (pl:Option Addr) (cl:Nat) (w:World) (hll:l.length<=9223372036854775807) (hs:HsAt w pl l) (hok:∀ x∈l,HsOk x) (en:En w) :
  Calls Tryz.prog 3 #[.slice pl l.length cl] w fun e w'=>e=.returned (.bool true)/\Below w.heap.size w w':=by
 have P0:=topOne V en
 have P1:=fun {wz:World} (hb:Below w.heap.size w wz)=>H1.new V 100000 w wz (fun j=>j<w.heap.size) (en.step hb) (by decide) (by decide) (fun j hj=>Nat.lt_of_lt_of_le hj hb.size) (fun j hj=>hj) hb
 go_enter Tryz.func3,Tryz.ntmps3
 go_wp2_with fail
 refine P0.mono ?_
 rintro e w1 ⟨rfl,hb1⟩
 have Q1:=P1 hb1
 clear P0 P1
 go_upto_if 46 with (go_at_call 7;refine Q1.mono ?_;clear Q1;rintro e w2 ⟨H,rfl,h2,hb2⟩)
 go_cut [2] (fun _ wy=>Hid (H1 T w (fun j=>j<w.heap.size) wy H (dk0 100000) []))
 case rest=>
  refine ‹∀ (a:Act) (w:World),Code.wp _ _ _ a w->_› _ _ ?_
  exact ts_loop V hll hs hok en hcut.out
 case first=>
  go_wp2_with fail
  go_meet
  case rel=>exact h2
end Go.Proofs.YtmghmpclmphccaaGreatDoor.Pa
