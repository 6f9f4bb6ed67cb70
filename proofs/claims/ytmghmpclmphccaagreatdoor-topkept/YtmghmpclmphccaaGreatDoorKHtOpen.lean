/- -/
import Derived.Test.YtmghmpclmphccaaGreatDoorKAdCutMath
import Derived.Test.YtmghmpclmphccaaGreatDoorKPlR
import Derived.Test.YtmghmpclmphccaaGreatDoorRows
import Derived.ProofKit
import Derived.OpenShut
import Derived.Deep.SlicePairs
import Derived.ChangeMaps5
import Derived.Carry
import Derived.Test.YtmghmpclmphccaaGreatDoorKHlH
import Derived.Test.YtmghmpclmphccaaGreatDoorKAuG
import Derived.Test.YtmghmpclmphccaaGreatDoorKVsBase
import Derived.Deep.CutBlock
import Derived.Deep.RegionHeld3
set_option maxHeartbeats 8000000
set_option maxRecDepth 100000
namespace Go.Proofs.YtmghmpclmphccaaGreatDoor.Pa
open Go.ChangeShapes Go.WideShapes Go.ChangeAt Go.RowKit Go.Deep Vs
structure Hs where
 what:Int
 who:ByteArray
 n:Int
 c:Cl
def hsL (x:Hs):List Value:=[.int .i64 x.what,.string x.who,.int .i64 x.n,.int .i64 x.c.what,.string x.c.nm,.int .i64 x.c.p.1,.int .i64 x.c.p.2,.int .i64 x.c.len,.int .i64 x.c.ad,.string x.c.ow]
structure ClOk (c:Cl):Prop where
 nm:c.nm.size<=maxLen
 ow:c.ow.size<=maxLen
 wh:I6 c.what
 p1:I6 c.p.1
 p2:I6 c.p.2
 ln:I6 c.len
 ad:I6 c.ad
structure HsOk (x:Hs):Prop where
 who:x.who.size<=maxLen
 n:I6 x.n
 c:ClOk x.c
def HsC (w:World) (b off:Nat) (l:List Hs):Prop:=∀ i x,l[i]? = some x -> ∀ j v,(hsL x)[j]? = some v->w.cell? ⟨b,off+(i*10+j),none⟩=some v
def HsAt (w:World) (p:Option Addr) (l:List Hs):Prop:=0<l.length -> ∃ b off,p=some ⟨b,off,none⟩/\b<w.heap.size/\HsC w b off l
theorem HsAt.step {w w':World} {p:Option Addr} {l:List Hs} (h:HsAt w p l) (hb:Below w.heap.size w w'):HsAt w' p l:=fun hl=>by
 obtain⟨b,off,rfl,h1,h2⟩:=h hl
 exact⟨b,off,rfl,Nat.lt_of_lt_of_le h1 hb.size,fun i x hx j v hv=>(hb.cell (p:=⟨b,off+(i*10+j),none⟩) h1).trans (h2 i x hx j v hv)⟩
theorem hs_cells:Tryz.prog.cellsOf 35=10:=by kernel_rfl
theorem call_cells:Tryz.prog.cellsOf 33=7:=by kernel_rfl
theorem pfx_cells:Tryz.prog.cellsOf 31=2:=by kernel_rfl
theorem hint_cells:Tryz.prog.cellsOf 3=1:=by kernel_rfl
theorem hstr_cells:Tryz.prog.cellsOf 9=1:=by kernel_rfl
theorem hlaid_out:laidOutB Tryz.prog=true:=by kernel_rfl
theorem i6_of {i:Int} (h:(Lit.int .i64 i).wf=true):I6 i:=by
 simpa [Lit.wf,I6,show IntKind.i64.min = -9223372036854775808 from rfl,show IntKind.i64.max=9223372036854775807 from rfl] using h
theorem open_pfx {H:Type} {enc:TypeId×Value->H} {W:World} {k:Nat} {v0 v1:Value} {y:DataW H×List MemPlace} (h:DataW.trod enc Tryz.prog W 0 (fun _=>true) true k 31 [v0,v1]=some y):∃ a b:Int,v0=.int .i64 a/\v1=.int .i64 b/\I6 a/\I6 b:=by
 obtain⟨xs,k,hk,hxy,_,hxl,hfl⟩:=DataW.trod_struct Tryz.underlying31 h
 match xs,hxl with
 | [y0,y1],_=>
  have g0:=hfl 0 _ rfl
  have g1:=hfl 1 _ rfl
  simp[hint_cells] at g0 g1
  obtain⟨k0,e0,_,z0⟩:=DataW.trod_int Tryz.underlying3 g0
  obtain⟨k1,e1,_,z1⟩:=DataW.trod_int Tryz.underlying3 g1
  simp only [List.cons.injEq,and_true] at e0 e1
  exact⟨k0,k1,e0,e1,i6_of z0,i6_of z1⟩
theorem open_callC {H:Type} {enc:TypeId×Value->H} {W:World} {k:Nat} {v0 v1 v2 v3 v4 v5 v6:Value} {y:DataW H×List MemPlace} (h:DataW.trod enc Tryz.prog W 0 (fun _=>true) true k 33 [v0,v1,v2,v3,v4,v5,v6]=some y) :
  ∃ c:Cl,ClOk c/\v0=.int .i64 c.what/\v1=.string c.nm/\v2=.int .i64 c.p.1/\v3=.int .i64 c.p.2/\v4=.int .i64 c.len/\v5=.int .i64 c.ad/\v6=.string c.ow:=by
 obtain⟨xs,k,hk,hxy,_,hxl,hfl⟩:=DataW.trod_struct Tryz.underlying33 h
 match xs,hxl with
 | [y0,y1,y2,y3,y4,y5],_=>
  have g0:=hfl 0 _ rfl
  have g1:=hfl 1 _ rfl
  have g2:=hfl 2 _ rfl
  have g3:=hfl 3 _ rfl
  have g4:=hfl 4 _ rfl
  have g5:=hfl 5 _ rfl
  simp[hint_cells,hstr_cells,pfx_cells] at g0 g1 g2 g3 g4 g5
  obtain⟨k0,e0,_,z0⟩:=DataW.trod_int Tryz.underlying3 g0
  obtain⟨k1,e1,_,z1⟩:=DataW.trod_string Tryz.underlying9 g1
  obtain⟨a,b,e2,e3,z2,z3⟩:=open_pfx g2
  obtain⟨k4,e4,_,z4⟩:=DataW.trod_int Tryz.underlying3 g3
  obtain⟨k5,e5,_,z5⟩:=DataW.trod_int Tryz.underlying3 g4
  obtain⟨k6,e6,_,z6⟩:=DataW.trod_string Tryz.underlying9 g5
  simp only [List.cons.injEq,and_true] at e0 e1 e4 e5 e6
  exact⟨⟨k0,k1,(a,b),k4,k5,k6⟩,⟨z1,z6,i6_of z0,z2,z3,i6_of z4,i6_of z5⟩,e0,e1,e2,e3,e4,e5,e6⟩
theorem open_hs {H:Type} {enc:TypeId×Value->H} {W:World} {base:Nat} {v:Value} {d:DataW H} {ps:List MemPlace} (hval:Value.okWide Tryz.prog W .any base 22 v) (h:DataW.Trod enc Tryz.prog W 0 (fun _=>true) true 22 v d ps) :
  ∃ (p:Option Addr) (cap:Nat) (l:List Hs),v=.slice p l.length cap/\l.length<=maxLen/\HsAt W p l /\ ∀ x∈l,HsOk x:=by
 obtain⟨a0,len,cap,rfl⟩:=okWide_slice Tryz.underlying22 hval
 obtain⟨fuel,hf⟩:=h
 rcases open_slice Tryz.underlying22 hf with ⟨h0,_⟩|⟨a,len',cap',m,n,D,Pl,hcs,_,hl,hm,hmm,hxd,hx⟩
 ·simp[Value.cells] at h0
  obtain⟨rfl,rfl,rfl⟩:=h0
  exact⟨none,0,[],rfl,by simp,fun h=>by simp at h,fun x h=>by simp at h⟩
 ·simp[Value.cells] at hcs
  obtain⟨rfl,rfl,rfl⟩:=hcs
  simp only [if_true] at hmm
  subst hmm
  have each:∀ i,i<len -> ∃ x:Hs,HsOk x /\ ∀ j v,(hsL x)[j]? = some v->W.cell? (a.add (i*10+j))=some v:=by
   intro i hi
   obtain⟨cs',h1,h2⟩:=hx i (by omega)
   rw[hs_cells] at h1
   obtain⟨_,hlen,hcell⟩:=World.cells?_some h1
   obtain⟨xs,k,hk,hxy,_,hxl,hfl⟩:=DataW.trod_struct Tryz.underlying35 h2
   match xs,hxl,cs',hlen with
   | [y0,y1,y2,y3],_,[v0,v1,v2,v3,v4,v5,v6,v7,v8,v9],_=>
    have g0:=hfl 0 _ rfl
    have g1:=hfl 1 _ rfl
    have g2:=hfl 2 _ rfl
    have g3:=hfl 3 _ rfl
    simp[hint_cells,hstr_cells,call_cells] at g0 g1 g2 g3
    obtain⟨k0,e0,_,_⟩:=DataW.trod_int Tryz.underlying3 g0
    obtain⟨k1,e1,_,z1⟩:=DataW.trod_string Tryz.underlying9 g1
    obtain⟨k2,e2,_,z2⟩:=DataW.trod_int Tryz.underlying3 g2
    obtain⟨c,hc,q0,q1,q2,q3,q4,q5,q6⟩:=open_callC g3
    simp only [List.cons.injEq,and_true] at e0 e1 e2
    subst e0 e1 e2 q0 q1 q2 q3 q4 q5 q6
    refine⟨⟨k0,k1,k2,c⟩,⟨z1,i6_of z2,hc⟩,fun j v hv=>?_⟩
    have hj:j<10:=(List.getElem?_eq_some_iff.1 hv).1
    have r:=hcell j (by simpa using hj)
    rw[add_add] at r
    rw[r]
    exact hv
  have:Inhabited Hs:=⟨⟨0,ByteArray.empty,0,⟨0,ByteArray.empty,(0,0),0,0,ByteArray.empty⟩⟩⟩
  obtain⟨f,hfx⟩:=choose_lt each
  refine⟨some a,m,(List.range len).map f,by simp,by simp;omega,fun hp=>?_,fun x hxm=>?_⟩
  case refine_2=>
   obtain⟨i,hi,rfl⟩:=List.mem_map.1 hxm
   exact (hfx i (List.mem_range.1 hi)).1
  simp only [List.length_map,List.length_range] at hp
  obtain⟨b,off,spot⟩:=a
  have c0:=(hfx 0 hp).2 0 _ rfl
  have hspot:spot=none:=by simpa [Addr.add] using World.cell?_spot c0
  subst hspot
  refine⟨b,off,rfl,?_,fun i x hix j v hv=>?_⟩
  ·have:=World.block_lt_of_cell? _ _ c0
   simpa [Addr.add] using this
  ·have hi:i<len:=by
    have:=(List.getElem?_eq_some_iff.1 hix).1
    simpa using this
   have e:x=f i:=by
    rw[List.getElem?_map,List.getElem?_range hi] at hix
    exact (Option.some.inj hix).symm
   subst e
   have:=(hfx i hi).2 j v hv
   rw[add_plain] at this
   exact this
end Go.Proofs.YtmghmpclmphccaaGreatDoor.Pa
namespace Go.Proofs.YtmghmpclmphccaaGreatDoor.Pa
open Go.RowKit Go.Maps Vs
open Au (auCheck)
def Hb (w:World) (B:Nat) (x:Hs):Prop:=∀ (j:Nat) (v:Value),(hsL x)[j]? = some v->w.cell? ⟨B,j,none⟩=some v
theorem Hb.step {w w':World} {B:Nat} {x:Hs} (h:Hb w B x) (hb:Below w.heap.size w w'):Hb w' B x:=fun j v hv=>(hb.cell (p:=⟨B,j,none⟩) (World.block_lt_of_cell? _ _ (h j v hv))).trans (h j v hv)
theorem kq_ask {k:Nat} {d:Dk} (h:Hz k d) (S:Ses) (who:ByteArray) (c:Cl):Kq d (haD d S who c):=by
 unfold haD
 split
 ·exact .of rfl
 ·exact .of (kq_run h.dp.ok c _)
section
variable {T:Td} {w wx:World} {H:Nat}
theorem kp_loop (V:DFace T) {l:List Hs} {pl:Option Addr} {cl:Nat} {room:Int} {c2 c3 c4 c5 c7 c8 c9 c10 c11 c12 c13 c14 c15 c16 c17 c18 c19 c20 c21 c22 c23 c24 c25 c26 c27 c28 c29 c30 c31 c32 c33 c34 c35 c36 c37 c38 c39 c40 c41 c42 c43 c44 c45 c46 c47 c48 c49 c50 c51 c52 c53 c54 c55 c56 c57 c58 c59 c60 c61 c62 c63 c64 c65 c66 c67 c68 c69 c70 c71 c72 c73 c74 c75 c76 c77 c78 c79 c80 c81 c82 c83 c84 c85 c86 c87 c88 c89 c90 c91 c92 c93 c94 c95 c96 c97 c98 c99 c100 c101 c102 c103 c104 c105 c106 c107 c108 c109 c110 c111 c112 c113 c114 c115 c116 c117 c118 c119 c120 c121 c122 c123 c124 c125 c126 c127 c128 c129 c130 c131 c132 c133 c134 c135 c136 c137 c138 c139 c140 c141 c142 c143 c144 c145 c146 c147 c148 c149 c150 c151 c152 c153 c154 c155 c156 c157 c158 c159 c160 c161 c162 c163 c164 c165 c166 c167 c168 c169 c170 c171 c172 c173 c174 c175 c176 c177 c178 c179 c180 c181 c182 c183 c184 c185 c186 c187 c188 c189 c190 c191 c192 c193:Value} (hll:l.length<=9223372036854775807) (hs:HsAt w pl l) (hok:∀ x∈l,HsOk x) (en:En w) (h0:0<=room) (h1:room<=5000) (h:H1 T w (fun j=>j<w.heap.size) wx H (dk0 room) []) :
  Code.wp Tryz.prog (dropSeq 5 (Tryz.f5.body.getD .skip)) (bodyPost Tryz.prog Tryz.f5 fun e w'=>e=.returned (.bool true)/\Below w.heap.size w w') ⟨#[.int .i64 room,.slice pl l.length cl,c2,c3,c4,c5,.pointer (some ⟨H,0,none⟩),c7,c8,c9,c10,c11,c12,c13,c14,c15,c16,c17,c18,c19,c20,c21,c22,c23,c24,c25,c26,c27,c28,c29,c30,c31,c32,c33,c34,c35,c36,c37,c38,c39,c40,c41,c42,c43,c44,c45,c46,c47,c48,c49,c50,c51,c52,c53,c54,c55,c56,c57,c58,c59,c60,c61,c62,c63,c64,c65,c66,c67,c68,c69,c70,c71,c72,c73,c74,c75,c76,c77,c78,c79,c80,c81,c82,c83,c84,c85,c86,c87,c88,c89,c90,c91,c92,c93,c94,c95,c96,c97,c98,c99,c100,c101,c102,c103,c104,c105,c106,c107,c108,c109,c110,c111,c112,c113,c114,c115,c116,c117,c118,c119,c120,c121,c122,c123,c124,c125,c126,c127,c128,c129,c130,c131,c132,c133,c134,c135,c136,c137,c138,c139,c140,c141,c142,c143,c144,c145,c146,c147,c148,c149,c150,c151,c152,c153,c154,c155,c156,c157,c158,c159,c160,c161,c162,c163,c164,c165,c166,c167,c168,c169,c170,c171,c172,c173,c174,c175,c176,c177,c178,c179,c180,c181,c182,c183,c184,c185,c186,c187,c188,c189,c190,c191,c192,c193],[]⟩ wx:=by
 conv=>arg 2;whnf
 have kz0:Kz T w (wx.alloc (.cells #[.slice none 0 0] 52)) H (dk0 room) [] (.slice (some ⟨wx.heap.size,0,none⟩) 1 1) (wasT (dk0 room).lg.ls):=by
  refine⟨_,h.step V (below_al (below_self wx) (.cells #[.slice none 0 0] 52)),[.slice none 0 0],World.ownsRow_lit (base:=w.heap.size) (e:=52) (size:=1) wx #[.slice none 0 0] 1 h.bl.size (by unfold maxLen;omega) rfl,fun j hj=>?_,fun i l hl=>?_⟩
  ·cases hj;exact .inr ⟨Nat.le_refl _,by simp⟩
  ·have:i=0:=by have:=(List.getElem?_eq_some_iff.1 hl).1;simp[wasT,dk0,lg0] at this;omega
   subst this
   have:l=[]:=(Option.some.inj hl).symm
   subst this
   exact⟨none,0,rfl,by simp,fun h=>by simp at h⟩
 have hz00:=Hz.new room h0 (by omega)
 clear h
 go_wp2_with fail
 go_loopw [8,9] (fun v i wr=>∃ (k m:Nat) (d:Dk) (S:Ses),k<=l.length/\k<=60/\i=.int .i64 k/\m<=4*k/\Hz m d/\S.length<=k/\Kz T w wr H d S v (wasT d.lg.ls)) (fun _ i _=>l.length - (intOf i).toNat)
 case atStart=>exact⟨0,0,_,_,by omega,by omega,rfl,by omega,hz00,by simp,kz0⟩
 case round=>
  obtain⟨k,m,d,S,hk,hk60,rfl,hm,hz0,hSl,kz⟩:=hrel
  clear kz0 hz00
  by_cases hlt:k<l.length/\k<60
  ·obtain⟨hlt,hlt60⟩:=hlt
   have hlt':(k:Int)<(l.length:Int):=by omega
   have hlt60':(k:Int)<60:=by omega
   obtain⟨b,off,rfl,hbl,hc⟩:=(hs.step kz.bl) (by omega)
   obtain⟨x,hx⟩:∃ x,l[k]? = some x:=⟨l[k],List.getElem?_eq_getElem hlt⟩
   have hxo:HsOk x:=hok x (List.mem_of_getElem? hx)
   have r:=hc k x hx
   have r0:=r 0 _ rfl
   rw[show off+(k*10+0)=off+k*10 by omega] at r0
   have r1:=r 1 _ rfl
   rw[show off+(k*10+1)=off+k*10+1 by omega] at r1
   have r2:=r 2 _ rfl
   rw[show off+(k*10+2)=off+k*10+2 by omega] at r2
   have r3:=r 3 _ rfl
   rw[show off+(k*10+3)=off+k*10+3 by omega] at r3
   have r4:=r 4 _ rfl
   rw[show off+(k*10+4)=off+k*10+4 by omega] at r4
   have r5:=r 5 _ rfl
   rw[show off+(k*10+5)=off+k*10+5 by omega] at r5
   have r6:=r 6 _ rfl
   rw[show off+(k*10+6)=off+k*10+6 by omega] at r6
   have r7:=r 7 _ rfl
   rw[show off+(k*10+7)=off+k*10+7 by omega] at r7
   have r8:=r 8 _ rfl
   rw[show off+(k*10+8)=off+k*10+8 by omega] at r8
   have r9:=r 9 _ rfl
   rw[show off+(k*10+9)=off+k*10+9 by omega] at r9
   obtain⟨p12,c12,rfl,hc12,hc12'⟩:=kz.form
   have hb0:=below_al (below_self wr) (.cells #[.int .i64 x.what,.string x.who,.int .i64 x.n,.int .i64 x.c.what,.string x.c.nm,.int .i64 x.c.p.1,.int .i64 x.c.p.2,.int .i64 x.c.len,.int .i64 x.c.ad,.string x.c.ow] 35)
   have sb0:Hb (wr.alloc (.cells #[.int .i64 x.what,.string x.who,.int .i64 x.n,.int .i64 x.c.what,.string x.c.nm,.int .i64 x.c.p.1,.int .i64 x.c.p.2,.int .i64 x.c.len,.int .i64 x.c.ad,.string x.c.ow] 35)) wr.heap.size x:=by
    intro j v hv
    match j,hv with
    | 0,hv|1,hv|2,hv|3,hv|4,hv|5,hv|6,hv|7,hv|8,hv|9,hv=>simp[hsL] at hv;subst hv;simp
   have kz0:=kz.step V hb0
   have P0:=kz0.safe V hz0.dp (by omega)
   clear r hc hx kz hb0 hs
   go_upto_block 2 with (go_at_call 20;refine P0.mono ?_;rintro e w1 ⟨rfl,hb1⟩;have kz1:=kz0.step V hb1;have sb:=sb0.step hb1;have kc0:=sb 0 _ rfl)
   obtain⟨Bs,hBs⟩:∃ Bs,Bs=wr.heap.size:=⟨_,rfl⟩
   rw[<- hBs] at sb
   rw[<- hBs]
   clear P0 kz0 sb0 hb1 hBs kc0 r0 r1 r2 r3 r4 r5 r6 r7 r8 r9
   go_cut [8,12,13,14,15,16,17,18,19,20] from 60 to 176 (fun v _ _ _ _ _ _ _ _ _ wy=>∃ (d':Dk) (S':Ses),Hz (m+4) d'/\S'.length<=k+1/\sfN d<=sfN d'/\Kz T w wy H d' S' v (wasT d'.lg.ls))
   case first=>
    have c0:=sb 0 _ rfl
    have c1:=sb 1 _ rfl
    have c2:=sb 2 _ rfl
    have c3:=sb 3 _ rfl
    have c4:=sb 4 _ rfl
    have c5:=sb 5 _ rfl
    have c6:=sb 6 _ rfl
    have c7:=sb 7 _ rfl
    have c8:=sb 8 _ rfl
    have c9:=sb 9 _ rfl
    clear sb
    by_cases hw0:x.what=0
    ·have hwh:True:=trivial
     have e0:(x.what==0)=true:=by simp;omega
     clear hwh hw0
     have P1:=kz1.open V x.who hz0.dp (by omega) hxo.who (by omega)
     go_wp2_with fail
     refine P1.mono ?_
     rintro e w2 ⟨rfl,kz2⟩
     have hz:=hz_open hz0 (S:=S) x.who
     have hS1:=hoS_len d S x.who
     have kq:=kq_open d S x.who
     clear P1 kz1
     clear c0 c1 c2 c3 c4 c5 c6 c7 c8 c9
     go_wp2_with fail
     go_meet
     case rel=>(refine⟨_,_,hz.more (by omega),?_,kq.sf,(by rw[kq.ls];exact kz2)⟩;first|omega|(simp;omega)|simp)
    by_cases hw1:x.what=1
    ·have hwh:True:=trivial
     have e0:(x.what==0)=false:=by simp;omega
     have e1:(x.what==1)=true:=by simp;omega
     clear hwh hw1
     have P1:=kz1.close V x.who hz0.dp (by omega) hxo.who
     have hz:=hz_close hz0 (S:=S) x.who
     have hS1:=sDel_len S x.who
     have hL:(wasT d.lg.ls).length=d.lg.ls.length+1:=wasT_len _
     have hfw:=hz0.dp.ok.lg.few.1
     rcases kq_close hz0.dp.ok S x.who with ⟨kq,kn⟩|⟨kr,kf,kn⟩
     ·by_cases hf:hcF d S x.who=0
      ·have g1:(hcN d S x.who==((wasT d.lg.ls).length:Int))=false:=by simpa using kn hf
       rw[hf,ev_0] at P1
       clear hf kn hL hfw
       go_wp2_with fail
       refine P1.mono ?_
       rintro e w2 ⟨rfl,kz2⟩
       clear P1 kz1
       clear c0 c1 c2 c3 c4 c5 c6 c7 c8 c9
       go_wp2_with fail
       go_meet
       case rel=>(refine⟨_,_,hz.more (by omega),?_,kq.sf,(by rw[kq.ls];exact kz2)⟩;omega)
      ·rw[ev_ne hf] at P1
       clear hf kn hL hfw
       go_wp2_with fail
       refine P1.mono ?_
       rintro e w2 ⟨rfl,kz2⟩
       clear P1 kz1
       clear c0 c1 c2 c3 c4 c5 c6 c7 c8 c9
       go_wp2_with fail
       go_meet
       case rel=>(refine⟨_,_,hz.more (by omega),?_,kq.sf,(by rw[kq.ls];exact kz2)⟩;omega)
     ·have g1:(hcN d S x.who==((wasT d.lg.ls).length:Int))=true:=by simpa using kn
      rw[kf,ev_0] at P1
      have hL2:(wasT d.lg.ls).length<=1000000:=by omega
      clear kn kf hL hfw
      go_wp2_with fail
      refine P1.mono ?_
      rintro e w2 ⟨rfl,kz2⟩
      clear P1 kz1 c0 c1 c2 c3 c4 c5 c6 c7 c8 c9
      obtain⟨own,ho⟩:=kr.ls
      obtain⟨A,hA⟩:∃ A,Hid (A=allT (hcD d S x.who).lg.ls):=⟨_,rfl⟩
      have hW:Hid (wasT (hcD d S x.who).lg.ls=wasT d.lg.ls ++ [A]):=by
       show _=_
       rw[hA.out,ho,wasT_app]
      have kz2':=kz2
      have P2:=kz2'.all V hz.dp (by omega)
      rw[hz.all,<- hA.out] at P2
      have hsf:=kr.sf
      clear ho kr hA kz2
      go_wp2_with fail
      refine P2.mono ?_
      rintro e w3 ⟨q3,c3,rfl,hc3,hp3,hb3⟩
      have hbx:=below_al (below_self w3) (.cells #[.slice q3 A.length c3] 52)
      obtain⟨vs,r1,hsz3,fin⟩:=kz2'.app V en (below_via hb3 hbx) (hp3.step hbx) hc3
      clear P2 kz2' hb3 hp3 hbx
      go_wp2_with (at_builtin;refine wpList_append_oneAt 64 52 1 24 _ Tryz.underlying64 infoPl rfl (by decide) (by decide) rfl _ _ rfl w.heap.size _ (wasT d.lg.ls).length vs rfl r1 hsz3 w3.heap.size [.slice q3 A.length c3] rfl rfl (op_cell _ _ _ _ rfl) op_one (by omega) ?_;intro v4 w5 own4 hg4 hat4)
      go_meet
      case rel=>(refine⟨_,_,hz.more (by omega),?_,hsf,(by rw[hW.out];exact fin v4 w5 own4 hg4 hat4)⟩;omega)
    by_cases hw2:x.what=2
    ·have hwh:True:=trivial
     have e0:(x.what==0)=false:=by simp;omega
     have e1:(x.what==1)=false:=by simp;omega
     have e2:(x.what==2)=true:=by simp;omega
     clear hwh hw2
     have P1:=kz1.quit V x.who hz0.dp (by omega) hxo.who
     go_wp2_with fail
     refine P1.mono ?_
     rintro e w2 ⟨rfl,kz2⟩
     have hz:=hz_quit hz0 (S:=S) x.who
     have hS1:=sDel_len S x.who
     have kq:=kq_quit d S x.who
     clear P1 kz1
     clear c0 c1 c2 c3 c4 c5 c6 c7 c8 c9
     go_wp2_with fail
     go_meet
     case rel=>(refine⟨_,_,hz.more (by omega),?_,kq.sf,(by rw[kq.ls];exact kz2)⟩;first|omega|(simp;omega)|simp)
    by_cases hw3:x.what=3
    ·have hwh:True:=trivial
     have e0:(x.what==0)=false:=by simp;omega
     have e1:(x.what==1)=false:=by simp;omega
     have e2:(x.what==2)=false:=by simp;omega
     have e3:(x.what==3)=true:=by simp;omega
     clear hwh hw3
     have P1:=kz1.flush V hz0.dp (by omega)
     go_wp2_with fail
     refine P1.mono ?_
     rintro e w2 ⟨rfl,kz2⟩
     have hz:=hz0.fl
     have hS1:=Nat.le_refl S.length
     have kq:=kq_fl hz0
     clear P1 kz1
     clear c0 c1 c2 c3 c4 c5 c6 c7 c8 c9
     go_wp2_with fail
     go_meet
     case rel=>(refine⟨_,_,hz.more (by omega),?_,kq.sf,(by rw[kq.ls];exact kz2)⟩;first|omega|(simp;omega)|simp)
    by_cases hw4:x.what=4
    ·have hwh:True:=trivial
     have e0:(x.what==0)=false:=by simp;omega
     have e1:(x.what==1)=false:=by simp;omega
     have e2:(x.what==2)=false:=by simp;omega
     have e3:(x.what==3)=false:=by simp;omega
     have e4:(x.what==4)=true:=by simp;omega
     clear hwh hw4
     have P1:=kz1.fail V x.n hxo.n hz0.dp (by omega)
     go_wp2_with fail
     refine P1.mono ?_
     rintro e w2 ⟨rfl,kz2⟩
     have hz:=hz0.fd (n:=x.n) hxo.n.2
     have hS1:=Nat.le_refl S.length
     have kq:=kq_fd d x.n
     clear P1 kz1
     clear c0 c1 c2 c3 c4 c5 c6 c7 c8 c9
     go_wp2_with fail
     go_meet
     case rel=>(refine⟨_,_,hz.more (by omega),?_,kq.sf,(by rw[kq.ls];exact kz2)⟩;first|omega|(simp;omega)|simp)
    by_cases hw5:x.what=5
    ·have hwh:True:=trivial
     have e0:(x.what==0)=false:=by simp;omega
     have e1:(x.what==1)=false:=by simp;omega
     have e2:(x.what==2)=false:=by simp;omega
     have e3:(x.what==3)=false:=by simp;omega
     have e4:(x.what==4)=false:=by simp;omega
     have e5:(x.what==5)=true:=by simp;omega
     clear hwh hw5
     have P1:=kz1.crash V x.n hxo.n hz0.dp (by omega)
     have hz:=hz0.cd x.n
     obtain⟨j,j1,j2,j4,j5⟩:=kq_cd hz0.dp.ok x.n
     have hall:=hz.all
     rw[j2] at hall
     have hfw:=hz0.dp.ok.lg.few.1
     have hL:(wasT d.lg.ls).length=d.lg.ls.length+1:=wasT_len _
     have hat:=wasT_at j1
     have hlen:(allT (d.lg.ls.take j)).length<=1000:=by
      rw[<- hall]
      exact all_few hz.dp (by omega)
     obtain⟨L,hLe⟩:∃ L,Hid ((wasT d.lg.ls).length=L):=⟨_,rfl⟩
     rw[hLe.out] at hL hc12 ⊢
     have hLb:L<=1000000:=by omega
     have hjL:j<L:=by omega
     have hj4:j<=1000000:=by omega
     have g1:decide ((j:Int)<(sfN d:Int))=false:=by simp;omega
     have g1':¬ j<sfN d:=by omega
     have g2:decide ((L:Int)<=(j:Int))=false:=by simp;omega
     have g2':¬ L<=j:=by omega
     have hjL':(j:Int)<(L:Int):=by omega
     have hjc:(j:Int)+1<=(c12:Int):=by omega
     replace hL:Hid _:=hL
     go_wp2_with fail
     refine P1.mono ?_
     rintro e w2 ⟨rfl,kz2⟩
     clear P1 kz1 c0 c1 c2 c3 c4 c5 c6 c7 c8 c9
     have P2:=kz2.safe V hz.dp (by omega)
     rw[j4] at P2
     go_wp2_with fail
     refine P2.mono ?_
     rintro e w3 ⟨rfl,hb3⟩
     have kz3:=kz2.step V hb3
     clear P2 kz2 hb3
     have kz3d:=kz3.step V (below_self w3).drew
     have PA:=kz3d.all V hz.dp (by omega)
     rw[hall] at PA
     obtain⟨bw,qw,cw,e1,hbw,cl',hcw,hpw⟩:=kz3.at hat
     subst e1
     go_wp2_with fail
     go_region_held3 (fun wz=>wz.cell? ⟨bw,j,none⟩=some (.slice qw (allT (d.lg.ls.take j)).length cw)) (first|exact cl'|exact f2|exact f1)
      (first
       | (go_at_call 15;refine PA.mono ?_;clear PA;rintro e w5 ⟨q5,c5',rfl,hc5,hp5,hb5⟩;have f1:=(hb5.cell (p:=⟨bw,j,none⟩) hbw).trans cl';have kz5:=kz3d.step V hb5;have PS:=samePairs _ _ q5 qw c5' cw w5 (Nat.le_trans hlen (by decide)) hp5.at ((hpw.step (below_self _).drew).step hb5);rw[decide_eq_true (rfl:allT (d.lg.ls.take j)=allT (d.lg.ls.take j))] at PS)
       | (go_at_call 14;refine PS.mono ?_;clear PS;rintro e w6 ⟨rfl,hb6⟩;have kz6:=kz5.step V hb6;have f2:=(hb6.cell (p:=⟨bw,j,none⟩) (Nat.lt_of_lt_of_le hbw hb5.size)).trans f1))
     clear kz3 kz3d kz5 cl' f1 f2 hpw hp5
     have P7:=kz6.all V hz.dp (by omega)
     rw[hall] at P7
     have hau:=hz.au
     have hsml:=all_small hz.dp.ok
     rw[hall] at hau hsml
     go_wp2_with fail
     refine P7.mono ?_
     rintro e w7 ⟨q7,c7,rfl,hc7,pr7,b7⟩
     have kz7:=kz6.step V b7
     have P8:=auCheck (allT (d.lg.ls.take j)) q7 c7 w7 pr7.at hlen hsml kz7.en.mx
     rw[hau,show ev ((0:Int),(0:Int)).2=.nilIface from rfl,show ((0:Int),(0:Int)).1=0 from rfl] at P8
     clear P7 kz6 pr7 hc7 b7
     go_wp2_with fail
     refine P8.mono ?_
     rintro e w8 ⟨rfl,b8⟩
     have kz8:=kz7.step V b8
     clear P8 kz7 b8
     go_wp2_with fail
     go_meet
     case rel=>
      refine⟨cdD d x.n,[],hz.more (by omega),Nat.zero_le _,by rw[j4];exact j5,?_⟩
      have:=kz8.take (k:=j+1) (by rw[wasT_len];omega)
      rw[j2,wasT_take j1]
      exact this
    by_cases hw6:x.what=6
    ·have hwh:True:=trivial
     have e0:(x.what==0)=false:=by simp;omega
     have e1:(x.what==1)=false:=by simp;omega
     have e2:(x.what==2)=false:=by simp;omega
     have e3:(x.what==3)=false:=by simp;omega
     have e4:(x.what==4)=false:=by simp;omega
     have e5:(x.what==5)=false:=by simp;omega
     have e6:(x.what==6)=true:=by simp;omega
     clear hwh hw6
     have P1:=kz1.once V x.c hz0.dp (by omega)
     have hz:=hz0.once x.c
     have hS1:=Nat.le_refl S.length
     have hL:(wasT d.lg.ls).length=d.lg.ls.length+1:=wasT_len _
     have hfw:=hz0.dp.ok.lg.few.1
     rcases kq_once hz0 x.c with ⟨kq,kn⟩|⟨kr,kf,kn⟩
     ·by_cases hf:onF d x.c=0
      ·have g1:(onN d x.c==((wasT d.lg.ls).length:Int))=false:=by simpa using kn hf
       rw[hf,ev_0] at P1
       clear hf kn hL hfw
       go_wp2_with fail
       refine P1.mono ?_
       rintro e w2 ⟨pu,cu,rfl,kz2⟩
       have kz2:=kz2.step V (below_al (below_self w2) (.cells #[.int .i64 (onA d x.c).p.1,.int .i64 (onA d x.c).p.2,.int .i64 (onA d x.c).ad,.string (onA d x.c).ow,.slice pu (onA d x.c).l.length cu] 46))
       clear P1 kz1
       clear c0 c1 c2 c3 c4 c5 c6 c7 c8 c9
       go_wp2_with fail
       go_meet
       case rel=>(refine⟨_,_,hz.more (by omega),?_,kq.sf,(by rw[kq.ls];exact kz2)⟩;omega)
      ·rw[ev_ne hf] at P1
       clear hf kn hL hfw
       go_wp2_with fail
       refine P1.mono ?_
       rintro e w2 ⟨pu,cu,rfl,kz2⟩
       have kz2:=kz2.step V (below_al (below_self w2) (.cells #[.int .i64 (onA d x.c).p.1,.int .i64 (onA d x.c).p.2,.int .i64 (onA d x.c).ad,.string (onA d x.c).ow,.slice pu (onA d x.c).l.length cu] 46))
       clear P1 kz1
       clear c0 c1 c2 c3 c4 c5 c6 c7 c8 c9
       go_wp2_with fail
       go_meet
       case rel=>(refine⟨_,_,hz.more (by omega),?_,kq.sf,(by rw[kq.ls];exact kz2)⟩;omega)
     ·have g1:(onN d x.c==((wasT d.lg.ls).length:Int))=true:=by simpa using kn
      rw[kf,ev_0] at P1
      have hL2:(wasT d.lg.ls).length<=1000000:=by omega
      clear kn kf hL hfw
      go_wp2_with fail
      refine P1.mono ?_
      rintro e w2 ⟨pu,cu,rfl,kz2⟩
      clear P1 kz1 c0 c1 c2 c3 c4 c5 c6 c7 c8 c9
      obtain⟨own,ho⟩:=kr.ls
      obtain⟨A,hA⟩:∃ A,Hid (A=allT (onD d x.c).lg.ls):=⟨_,rfl⟩
      have hW:Hid (wasT (onD d x.c).lg.ls=wasT d.lg.ls ++ [A]):=by
       show _=_
       rw[hA.out,ho,wasT_app]
      have kz2':=kz2.step V (below_al (below_self w2) (.cells #[.int .i64 (onA d x.c).p.1,.int .i64 (onA d x.c).p.2,.int .i64 (onA d x.c).ad,.string (onA d x.c).ow,.slice pu (onA d x.c).l.length cu] 46))
      have P2:=kz2'.all V hz.dp (by omega)
      rw[hz.all,<- hA.out] at P2
      have hsf:=kr.sf
      clear ho kr hA kz2
      go_wp2_with fail
      refine P2.mono ?_
      rintro e w3 ⟨q3,c3,rfl,hc3,hp3,hb3⟩
      have hbx:=below_al (below_self w3) (.cells #[.slice q3 A.length c3] 52)
      obtain⟨vs,r1,hsz3,fin⟩:=kz2'.app V en (below_via hb3 hbx) (hp3.step hbx) hc3
      clear P2 kz2' hb3 hp3 hbx
      go_wp2_with (at_builtin;refine wpList_append_oneAt 64 52 1 24 _ Tryz.underlying64 infoPl rfl (by decide) (by decide) rfl _ _ rfl w.heap.size _ (wasT d.lg.ls).length vs rfl r1 hsz3 w3.heap.size [.slice q3 A.length c3] rfl rfl (op_cell _ _ _ _ rfl) op_one (by omega) ?_;intro v4 w5 own4 hg4 hat4)
      go_meet
      case rel=>(refine⟨_,_,hz.more (by omega),?_,hsf,(by rw[hW.out];exact fin v4 w5 own4 hg4 hat4)⟩;omega)
    ·have hwh:True:=trivial
     have e0:(x.what==0)=false:=by simp;omega
     have e1:(x.what==1)=false:=by simp;omega
     have e2:(x.what==2)=false:=by simp;omega
     have e3:(x.what==3)=false:=by simp;omega
     have e4:(x.what==4)=false:=by simp;omega
     have e5:(x.what==5)=false:=by simp;omega
     have e6:(x.what==6)=false:=by simp;omega
     clear hwh
     have P1:=kz1.ask V x.who x.c hz0.dp (by omega) hxo.who
     go_wp2_with fail
     refine P1.mono ?_
     rintro e w2 ⟨pu,cu,rfl,kz2⟩
     have hz:=hz_ask hz0 (S:=S) x.who x.c
     have hS1:=Nat.le_refl S.length
     have kq:=kq_ask hz0 S x.who x.c
     clear P1 kz1
     clear c0 c1 c2 c3 c4 c5 c6 c7 c8 c9
     go_wp2_with fail
     go_meet
     case rel=>(refine⟨_,_,hz.more (by omega),?_,kq.sf,(by rw[kq.ls];exact kz2)⟩;first|omega|(simp;omega)|simp)
   case rest=>
    obtain⟨d',S',hz,hSl',hsf,kz'⟩:=hcut
    obtain⟨wy,rfl⟩:∃ wy,wy=wc:=⟨wc,rfl⟩
    clear kz1 sb
    obtain⟨p',c',rfl,hc',hc''⟩:=kz'.form
    have hL:(wasT d'.lg.ls).length=d'.lg.ls.length+1:=wasT_len _
    have hfw:=hz.dp.ok.lg.few.1
    have hat:=wasT_at (ls:=d'.lg.ls) (i:=d'.lg.ls.length) (Nat.le_refl _)
    rw[List.take_length] at hat
    have hall:=hz.all
    have hlen:=all_few hz.dp (by omega)
    rw[hall] at hlen
    obtain⟨bw,qw,cw,e1,hbw,cl',hcw,hpw⟩:=kz'.at hat
    subst e1
    obtain⟨N,hN⟩:∃ N,Hid ((wasT d'.lg.ls).length=N):=⟨_,rfl⟩
    rw[hN.out] at kz' hc' hL ⊢
    rw[show d'.lg.ls.length=N - 1 by omega] at cl'
    have a0:0<N:=by omega
    have hNb:N<=1000000:=by omega
    have a1:(0:Int)<=(N:Int) - 1:=by omega
    have a2:(N:Int) - 1<(N:Int):=by omega
    have a5:(1:Int)<=(N:Int):=by omega
    have a6:¬ ((N:Int) - 1<0):=by omega
    have a7:¬ ((N:Int)<1):=by omega
    have a8:(0:Int)<(N:Int):=by omega
    have a9:1<=N:=by omega
    have a3:((N:Int) - 1).toNat=N - 1:=by omega
    have a4:IntKind.i64.wrap ((N:Int) - 1)=(N:Int) - 1:=Bur.wrap_i64_id _ (by omega) (by omega)
    obtain⟨A,hA⟩:∃ A,Hid (A=allT d'.lg.ls):=⟨_,rfl⟩
    rw[<- hA.out] at hall hlen cl' hcw hpw
    have kzd:=kz'.step V (below_self wy).drew
    have PA:=kzd.all V hz.dp (by omega)
    rw[hall] at PA
    have g1:decide ((sfN d':Int)<(sfN d:Int))=false:=by simp;omega
    have g1':¬ sfN d'<sfN d:=by omega
    clear hL hat hall hfw
    go_wp2_with fail
    go_region_held3 (fun wz=>wz.cell? ⟨bw,N - 1,none⟩=some (.slice qw A.length cw)) (first|exact cl'|exact f2|exact f1)
     (first
      | (go_at_call 15;refine PA.mono ?_;clear PA;rintro e w5 ⟨q5,c5',rfl,hc5,hp5,hb5⟩;have f1:=(hb5.cell (p:=⟨bw,N - 1,none⟩) hbw).trans cl';have kz5:=kzd.step V hb5;have PS:=samePairs _ _ q5 qw c5' cw w5 (Nat.le_trans hlen (by decide)) hp5.at ((hpw.step (below_self _).drew).step hb5);rw[decide_eq_true (rfl:A=A)] at PS)
      | (go_at_call 14;refine PS.mono ?_;clear PS;rintro e w6 ⟨rfl,hb6⟩;have kz6:=kz5.step V hb6;have f2:=(hb6.cell (p:=⟨bw,N - 1,none⟩) (Nat.lt_of_lt_of_le hbw hb5.size)).trans f1))
    clear kz' kzd kz5 cl' f1 f2 hpw hp5
    have P7:=kz6.safe V hz.dp (by omega)
    go_wp2_with fail
    refine P7.mono ?_
    rintro e w7 ⟨rfl,hb7⟩
    have kz7:=kz6.step V hb7
    clear P7 kz6
    go_wp2_with fail
    exact⟨⟨k+1,m+4,d',S',by omega,by omega,by go_num,by omega,hz,hSl',kz7⟩,by simp[intOf];omega⟩
  ·by_cases h1:k<l.length
   ·have g1:decide ((k:Int)<(l.length:Int))=true:=by simp;omega
    have g2:decide ((k:Int)<60)=false:=by simp;omega
    have bw:=kz.bl
    clear kz hs
    go_wp2_with fail
    go_ret
    exact⟨rfl,bw⟩
   ·have g1:decide ((k:Int)<(l.length:Int))=false:=by simp;omega
    have bw:=kz.bl
    clear kz hs
    go_wp2_with fail
    go_ret
    exact⟨rfl,bw⟩
theorem law_kept (V:DFace T) (room:Int) (l:List Hs) (pl:Option Addr) (cl:Nat) (w:World) (hll:l.length<=9223372036854775807) (hs:HsAt w pl l) (hok:∀ x∈l,HsOk x) (en:En w) :
  Calls Tryz.prog 5 #[.int .i64 room,.slice pl l.length cl] w fun e w'=>e=.returned (.bool true)/\Below w.heap.size w w':=by
 have P0:=topOne V en
 by_cases hin:0<=room/\room<=5000
 ·obtain⟨h0,h1⟩:=hin
  have g0:decide (room<0)=false:=by simp;omega
  have g1:decide (5000<room)=false:=by simp;omega
  have g2:decide (room > 5000)=false:=by simp;omega
  have P1:=fun {wz:World} (hb:Below w.heap.size w wz)=>H1.new V room w wz (fun j=>j<w.heap.size) (en.step hb) h0 (by omega) (fun j hj=>Nat.lt_of_lt_of_le hj hb.size) (fun j hj=>hj) hb
  go_enter Tryz.func5,Tryz.ntmps5
  go_wp2_with fail
  refine P0.mono ?_
  rintro e w1 ⟨rfl,hb1⟩
  have Q1:=P1 hb1
  clear P0 P1
  go_upto_if 40 with (go_at_call 7;refine Q1.mono ?_;clear Q1;rintro e w2 ⟨H,rfl,h2,hb2⟩)
  go_cut [4] (fun _ wy=>Hid (H1 T w (fun j=>j<w.heap.size) wy H (dk0 room) []))
  case rest=>
   refine ‹∀ (a:Act) (w:World),Code.wp _ _ _ a w->_› _ _ ?_
   exact kp_loop V hll hs hok en h0 h1 hcut.out
  case first=>
   go_wp2_with fail
   go_meet
   case rel=>exact h2
 ·have g0:(decide (room<0) || decide (5000<room))=true:=by simp;omega
  by_cases h0:room<0
  ·have g0:decide (room<0)=true:=by simp;omega
   go_enter Tryz.func5,Tryz.ntmps5
   go_wp2_with fail
   refine P0.mono ?_
   rintro e w1 ⟨rfl,hb1⟩
   go_wp2_with fail
   go_ret
   exact⟨rfl,hb1⟩
  ·have g0:decide (room<0)=false:=by simp;omega
   have g1:decide (5000<room)=true:=by simp;omega
   have g2:decide (room > 5000)=true:=by simp;omega
   go_enter Tryz.func5,Tryz.ntmps5
   go_wp2_with fail
   refine P0.mono ?_
   rintro e w1 ⟨rfl,hb1⟩
   go_wp2_with fail
   go_ret
   exact⟨rfl,hb1⟩
end
end Go.Proofs.YtmghmpclmphccaaGreatDoor.Pa
