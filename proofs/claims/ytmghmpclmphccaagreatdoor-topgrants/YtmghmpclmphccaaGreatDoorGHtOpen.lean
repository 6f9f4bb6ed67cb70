/- -/
import Derived.Test.YtmghmpclmphccaaGreatDoorRows
import Derived.ProofKit
import Derived.OpenShut
import Derived.Deep.SlicePairs
import Derived.Test.YtmghmpclmphccaaGreatDoorGGrMath
set_option maxHeartbeats 8000000
set_option maxRecDepth 100000
namespace Go.Proofs.YtmghmpclmphccaaGreatDoor.Pa
open Go.ChangeShapes Go.WideShapes Go.ChangeAt Go.RowKit Go.Deep Vs
structure Hs where
 what:Int
 who:ByteArray
 n:Int
 c:Cl
def hsL (x:Hs):List Value:=[.int .i64 x.what,.string x.who,.int .i64 x.n,.int .i64 x.c.what,.string x.c.nm,.int .i64 x.c.p.1,.int .i64 x.c.p.2,.int .i64 x.c.len,.int .i64 x.c.ad,.string x.c.ow]
structure ahB (c:Cl):Prop where
 nm:c.nm.size<=maxLen
 ow:c.ow.size<=maxLen
 wh:I6 c.what
 p1:I6 c.p.1
 p2:I6 c.p.2
 ln:I6 c.len
 ad:I6 c.ad
structure LU (x:Hs):Prop where
 who:x.who.size<=maxLen
 n:I6 x.n
 c:ahB x.c
def HsC (w:World)(b off:Nat)(l:List Hs):Prop:=∀i x,l[i]? = some x -> ∀j v,(hsL x)[j]? = some v->w.cell? ⟨b,off+(i*10+j),none⟩=some v
def Wj (w:World)(p:Option Addr)(l:List Hs):Prop:=0<l.length -> ∃b off,p=some ⟨b,off,none⟩/\b<w.heap.size/\HsC w b off l
theorem Wj.step {w w':World}{p:Option Addr}{l:List Hs}(h:Wj w p l)(hb:Below w.heap.size w w'):Wj w' p l:=fun hl=>by
 obtain⟨b,off,rfl,h1,h2⟩:=h hl
 exact⟨b,off,rfl,Nat.lt_of_lt_of_le h1 hb.size,fun i x hx j v hv=>(hb.cell (p:=⟨b,off+(i*10+j),none⟩) h1).trans (h2 i x hx j v hv)⟩
theorem Yr:Tryz.prog.cellsOf 35=10:=by kernel_rfl
theorem RD:Tryz.prog.cellsOf 33=7:=by kernel_rfl
theorem J9:Tryz.prog.cellsOf 31=2:=by kernel_rfl
theorem yE:Tryz.prog.cellsOf 3=1:=by kernel_rfl
theorem EO:Tryz.prog.cellsOf 9=1:=by kernel_rfl
theorem VQ:laidOutB Tryz.prog=true:=by kernel_rfl
theorem J4 {i:Int}(h:(Lit.int .i64 i).wf=true):I6 i:=by
 simpa [Lit.wf,I6,show IntKind.i64.min = -9223372036854775808 from rfl,show IntKind.i64.max=9223372036854775807 from rfl] using h
theorem X7 {H:Type}{enc:TypeId×Value->H}{W:World}{k:Nat}{v0 v1:Value}{y:DataW H×List MemPlace}(h:DataW.trod enc Tryz.prog W 0 (fun _=>true) true k 31 [v0,v1]=some y):∃a b:Int,v0=.int .i64 a/\v1=.int .i64 b/\I6 a/\I6 b:=by
 obtain⟨xs,k,hk,hxy,_,hxl,hfl⟩:=DataW.trod_struct Tryz.underlying31 h
 match xs,hxl with
 | [y0,y1],_=>
  have g0:=hfl 0 _ rfl
  have g1:=hfl 1 _ rfl
  simp[yE] at g0 g1
  obtain⟨k0,e0,_,z0⟩:=DataW.trod_int Tryz.underlying3 g0
  obtain⟨k1,e1,_,z1⟩:=DataW.trod_int Tryz.underlying3 g1
  simp only [List.cons.injEq,and_true] at e0 e1
  exact⟨k0,k1,e0,e1,J4 z0,J4 z1⟩
theorem QX {H:Type}{enc:TypeId×Value->H}{W:World}{k:Nat}{v0 v1 v2 v3 v4 v5 v6:Value}{y:DataW H×List MemPlace}(h:DataW.trod enc Tryz.prog W 0 (fun _=>true) true k 33 [v0,v1,v2,v3,v4,v5,v6]=some y) :
  ∃c:Cl,ahB c/\v0=.int .i64 c.what/\v1=.string c.nm/\v2=.int .i64 c.p.1/\v3=.int .i64 c.p.2/\v4=.int .i64 c.len/\v5=.int .i64 c.ad/\v6=.string c.ow:=by
 obtain⟨xs,k,hk,hxy,_,hxl,hfl⟩:=DataW.trod_struct Tryz.underlying33 h
 match xs,hxl with
 | [y0,y1,y2,y3,y4,y5],_=>
  have g0:=hfl 0 _ rfl
  have g1:=hfl 1 _ rfl
  have g2:=hfl 2 _ rfl
  have g3:=hfl 3 _ rfl
  have g4:=hfl 4 _ rfl
  have g5:=hfl 5 _ rfl
  simp[yE,EO,J9] at g0 g1 g2 g3 g4 g5
  obtain⟨k0,e0,_,z0⟩:=DataW.trod_int Tryz.underlying3 g0
  obtain⟨k1,e1,_,z1⟩:=DataW.trod_string Tryz.underlying9 g1
  obtain⟨a,b,e2,e3,z2,z3⟩:=X7 g2
  obtain⟨k4,e4,_,z4⟩:=DataW.trod_int Tryz.underlying3 g3
  obtain⟨k5,e5,_,z5⟩:=DataW.trod_int Tryz.underlying3 g4
  obtain⟨k6,e6,_,z6⟩:=DataW.trod_string Tryz.underlying9 g5
  simp only [List.cons.injEq,and_true] at e0 e1 e4 e5 e6
  exact⟨⟨k0,k1,(a,b),k4,k5,k6⟩,⟨z1,z6,J4 z0,z2,z3,J4 z4,J4 z5⟩,e0,e1,e2,e3,e4,e5,e6⟩
theorem adf {H:Type}{enc:TypeId×Value->H}{W:World}{base:Nat}{v:Value}{d:DataW H}{ps:List MemPlace}(hval:Value.okWide Tryz.prog W .any base 22 v)(h:DataW.Trod enc Tryz.prog W 0 (fun _=>true) true 22 v d ps) :
  ∃(p:Option Addr) (cap:Nat) (l:List Hs),v=.slice p l.length cap/\l.length<=maxLen/\Wj W p l /\ ∀x∈l,LU x:=by
 obtain⟨a0,len,cap,rfl⟩:=okWide_slice Tryz.underlying22 hval
 obtain⟨fuel,hf⟩:=h
 rcases open_slice Tryz.underlying22 hf with ⟨h0,_⟩|⟨a,len',cap',m,n,D,Pl,hcs,_,hl,hm,hmm,hxd,hx⟩
 ·simp[Value.cells] at h0
  obtain⟨rfl,rfl,rfl⟩:=h0
  exact⟨none,0,[],rfl,by simp,fun h=>by simp at h,fun x h=>by simp at h⟩
 ·simp[Value.cells] at hcs
  obtain⟨rfl,rfl,rfl⟩:=hcs
  simp only [if_true] at hmm
  subst hmm
  have each:∀i,i<len -> ∃x:Hs,LU x /\ ∀j v,(hsL x)[j]? = some v->W.cell? (a.add (i*10+j))=some v:=by
   intro i hi
   obtain⟨cs',h1,h2⟩:=hx i (by omega)
   rw[Yr] at h1
   obtain⟨_,hlen,hcell⟩:=World.cells?_some h1
   obtain⟨xs,k,hk,hxy,_,hxl,hfl⟩:=DataW.trod_struct Tryz.underlying35 h2
   match xs,hxl,cs',hlen with
   | [y0,y1,y2,y3],_,[v0,v1,v2,v3,v4,v5,v6,v7,v8,v9],_=>
    have g0:=hfl 0 _ rfl
    have g1:=hfl 1 _ rfl
    have g2:=hfl 2 _ rfl
    have g3:=hfl 3 _ rfl
    simp[yE,EO,RD] at g0 g1 g2 g3
    obtain⟨k0,e0,_,_⟩:=DataW.trod_int Tryz.underlying3 g0
    obtain⟨k1,e1,_,z1⟩:=DataW.trod_string Tryz.underlying9 g1
    obtain⟨k2,e2,_,z2⟩:=DataW.trod_int Tryz.underlying3 g2
    obtain⟨c,hc,q0,q1,q2,q3,q4,q5,q6⟩:=QX g3
    simp only [List.cons.injEq,and_true] at e0 e1 e2
    subst e0 e1 e2 q0 q1 q2 q3 q4 q5 q6
    refine⟨⟨k0,k1,k2,c⟩,⟨z1,J4 z2,hc⟩,fun j v hv=>?_⟩
    have hj:j<10:=(List.getElem?_eq_some_iff.1 hv).1
    have r:=hcell j (by simpa using hj)
    rw[add_add] at r
    rw[r]
    exact hv
  have:Inhabited Hs:=⟨⟨0,ByteArray.empty,0,⟨0,ByteArray.empty,(0,0),0,0,ByteArray.empty⟩⟩⟩
  obtain⟨f,hfx⟩:=choose_lt each
  refine⟨some a,m,(List.range len).map f,by simp,by simp;omega,fun hp=>?_,fun x hxm=>?_⟩
  case refine_2=>
   obtain⟨i,hi,rfl⟩:=List.mem_map.1 hxm
   exact (hfx i (List.mem_range.1 hi)).1
  simp only [List.length_map,List.length_range] at hp
  obtain⟨b,off,spot⟩:=a
  have c0:=(hfx 0 hp).2 0 _ rfl
  have hspot:spot=none:=by simpa [Addr.add] using World.cell?_spot c0
  subst hspot
  refine⟨b,off,rfl,?_,fun i x hix j v hv=>?_⟩
  ·have:=World.block_lt_of_cell? _ _ c0
   simpa [Addr.add] using this
  ·have hi:i<len:=by
    have:=(List.getElem?_eq_some_iff.1 hix).1
    simpa using this
   have e:x=f i:=by
    rw[List.getElem?_map,List.getElem?_range hi] at hix
    exact (Option.some.inj hix).symm
   subst e
   have:=(hfx i hi).2 j v hv
   rw[add_plain] at this
   exact this
end Go.Proofs.YtmghmpclmphccaaGreatDoor.Pa
namespace Go.Proofs.YtmghmpclmphccaaGreatDoor.Pa
open Go.RowKit Go.Maps Vs
def Hb (w:World)(B:Nat)(x:Hs):Prop:=∀(j:Nat) (v:Value),(hsL x)[j]? = some v->w.cell? ⟨B,j,none⟩=some v
theorem Hb.lt {w:World}{B:Nat}{x:Hs}(h:Hb w B x):B<w.heap.size:=World.block_lt_of_cell? _ _ (h 0 _ rfl)
theorem Hb.but {F:Nat->Prop}{w w':World}{B:Nat}{x:Hs}(h:Hb w B x)(hb:But F w w')(hF:¬F B):Hb w' B x:=fun j v hv=>(hb.cell (p:=⟨B,j,none⟩) (World.block_lt_of_cell? _ _ (h j v hv)) hF).trans (h j v hv)
theorem Hb.step {w w':World}{B:Nat}{x:Hs}(h:Hb w B x)(hb:Below w.heap.size w w'):Hb w' B x:=h.but (F:=fun _=>False) (.below hb) id
theorem Hb.new (w:World)(t:Nat)(x:Hs):Hb (w.alloc (.cells #[.int .i64 x.what,.string x.who,.int .i64 x.n,.int .i64 x.c.what,.string x.c.nm,.int .i64 x.c.p.1,.int .i64 x.c.p.2,.int .i64 x.c.len,.int .i64 x.c.ad,.string x.c.ow] t)) w.heap.size x:=by
 intro j v hv
 match j,hv with
 | 0,hv|1,hv|2,hv|3,hv|4,hv|5,hv|6,hv|7,hv|8,hv|9,hv=>simp[hsL] at hv;subst hv;simp
theorem Ep (l:List Cl):∀u∈l.flatMap cZ,u.oneCell'=true:=by
 intro u hu
 obtain⟨x,_,hx⟩:=List.mem_flatMap.1 hu
 simp[cZ] at hx
 rcases hx with rfl|rfl|rfl|rfl|rfl|rfl|rfl <;> rfl
theorem Kv (x:Cl):∀u∈cZ x,u.oneCell'=true:=fun u hu=>Ep [x] u (by simpa using hu)
theorem ZV (a:Int):∀u∈([.int .i64 a]:List Value),u.oneCell'=true:=fun u hu=>by rw[List.mem_singleton.1 hu];rfl
theorem XH (a b:Int):∀u∈([.int .i64 a,.int .i64 b]:List Value),u.oneCell'=true:=fun u hu=>by
 simp at hu
 rcases hu with rfl|rfl <;> rfl
theorem ad8 (V:World)(N:Nat)(a b:Value)(t:TypeId)(hN:N=V.heap.size):∀j u,[a,b][j]? = some u->(V.alloc (.cells #[a,b] t)).cell? ⟨N,j,none⟩=some u:=by
 subst hN
 intro j u hj
 match j,hj with
 | 0,hj|1,hj=>simp at hj;subst hj;simp
theorem QG {X:Nat->Prop}{w:World}{e size n:Nat}{v:Value}{cs:List Value}(h:Fz X w e size v n cs):v.oneCell'=true:=by
 obtain⟨p,c,rfl,_⟩:=h.form
 rfl
theorem OH {X:Nat->Prop}{w:World}{e:Dt}(h:yP X w e):∀u∈(e.x.td.zip e.us).flatMap pJ,u.oneCell'=true:=by
 intro u hu
 obtain⟨⟨t,v⟩,hx,hm⟩:=List.mem_flatMap.1 hu
 obtain⟨i,hi⟩:=List.mem_iff_getElem?.1 hx
 rw[List.getElem?_zip_eq_some] at hi
 have:=QG (h.u i t v hi.1 hi.2)
 simp[pJ] at hm
 rcases hm with rfl|rfl|rfl|rfl|rfl
 ·rfl
 ·rfl
 ·rfl
 ·rfl
 ·exact this
theorem Ku (t:Cl×An)(p:Option Addr)(n c:Nat):∀u∈pJ (t,.slice p n c),u.oneCell'=true:=by
 intro u hu
 simp[pJ] at hu
 rcases hu with rfl|rfl|rfl|rfl|rfl <;> rfl
theorem rH (V:World)(N:Nat)(a b c d e:Value)(t:TypeId)(hN:N=V.heap.size):∀j u,[a,b,c,d,e][j]? = some u->(V.alloc (.cells #[a,b,c,d,e] t)).cell? ⟨N,j,none⟩=some u:=by
 subst hN
 intro j u hj
 match j,hj with
 | 0,hj|1,hj|2,hj|3,hj|4,hj=>simp at hj;subst hj;simp
theorem wY (V:World)(N:Nat)(a b c d e f g:Value)(t:TypeId)(hN:N=V.heap.size):∀j u,[a,b,c,d,e,f,g][j]? = some u->(V.alloc (.cells #[a,b,c,d,e,f,g] t)).cell? ⟨N,j,none⟩=some u:=by
 subst hN
 intro j u hj
 match j,hj with
 | 0,hj|1,hj|2,hj|3,hj|4,hj|5,hj|6,hj=>simp at hj;subst hj;simp
def dt0 (who:ByteArray):Dt:=⟨⟨who,[]⟩,.slice none 0 0,.slice none 0 0,[]⟩
theorem ad3 (X:Nat->Prop)(w:World)(who:ByteArray):yP X w (dt0 who):=
 ⟨Fz.nil _ _ _ _,Fz.nil _ _ _ _,fun i t u h=>(by simp[dt0] at h),Nat.zero_le _,rfl⟩
theorem ace (who:ByteArray):∀u∈dO (dt0 who),u.oneCell'=true:=by
 intro u hu
 simp[dO,dt0] at hu
 rcases hu with rfl|rfl|rfl <;> rfl
theorem ZH (l:List Dt)(j:Nat):(l.eraseIdx j).map (·.x)=(l.map (·.x)).eraseIdx j:=by rw[List.eraseIdx_eq_take_drop_succ,List.eraseIdx_eq_take_drop_succ,List.map_append,List.map_take,List.map_drop]
theorem Ye (l:List Dt)(j:Nat):l.flatMap dO=(l.take j).flatMap dO++(l.drop j).flatMap dO:=by rw[<- List.flatMap_append,List.take_append_drop]
theorem acu {l:List Dt}{j i:Nat}{u:Value}(h:((l.take j).flatMap dO)[i]? = some u):(l.flatMap dO)[i]? = some u:=by
 rw[Ye l j,List.getElem?_append_left (List.getElem?_eq_some_iff.1 h).1];exact h
theorem aa8 {l:List Dt}{j i:Nat}{u:Value}(hj:j<=l.length)(h:((l.drop j).flatMap dO)[i]? = some u):(l.flatMap dO)[j*5+i]? = some u:=by
 rw[Ye l j,List.getElem?_append_right (by rw[dY,List.length_take];omega),dY,List.length_take,Nat.min_eq_left hj,Nat.add_sub_cancel_left];exact h
theorem QK {X:Nat->Prop}{w:World}{l:List Dt}(h:∀e∈l,yP X w e):∀u∈l.flatMap dO,u.oneCell'=true:=by
 intro u hu
 obtain⟨e,he,hx⟩:=List.mem_flatMap.1 hu
 have q:=h e he
 have qa:=QG q.a
 have qb:=QG q.b
 simp[dO] at hx
 rcases hx with rfl|rfl|rfl|rfl|rfl
 ·rfl
 ·rfl
 ·exact qa
 ·exact qb
 ·rfl
def Fnd (es:List Dt)(who:ByteArray)(n:Nat)(v:Int):Prop:=(v = -1 /\ ∀(i:Nat) (e:Dt),i<n->es[i]? = some e->e.x.who≠who) \/ ∃(i:Nat) (e:Dt),i<n/\es[i]? = some e/\e.x.who=who/\v=i
theorem Fnd.hit {es:List Dt}{who:ByteArray}{n:Nat}{e:Dt}(he:es[n]? = some e)(h:e.x.who=who):Fnd es who (n+1) n:=.inr ⟨n,e,by omega,he,h,rfl⟩
theorem Fnd.miss {es:List Dt}{who:ByteArray}{n:Nat}{v:Int}{e:Dt}(f:Fnd es who n v)(he:es[n]? = some e)(h:e.x.who≠who):Fnd es who (n+1) v:=by
 rcases f with ⟨h1,h2⟩|⟨i,e',h1,h2,h3,h4⟩
 ·refine .inl ⟨h1,fun i e' hi he'=>?_⟩
  by_cases c:i=n
  ·subst c
   rw[he] at he'
   cases he'
   exact h
  ·exact h2 i e' (by omega) he'
 ·exact .inr ⟨i,e',by omega,h2,h3,h4⟩
def agL:Code->Code
 | .seq a _=>a
 | c=>c
def ag4:Code->Code
 | .seq _ b=>b
 | c=>c
def cIn:Code->Code
 | .block _ b=>b
 | .loop b=>b
 | c=>c
def Yn (c:Code):Code:=cIn (agL (ag4 (cIn (cIn (ag4 (agL (dW 11 c)))))))
theorem Fz.at {X:Nat->Prop}{w:World}{e size n:Nat}{v:Value}{cs:List Value}(h:Fz X w e size v n cs)(hn:0<n):∃g c,v=.slice (some ⟨g,0,none⟩) n c/\n<=c/\g<w.heap.size/\X g /\ ∀j,j<cs.length->w.cell? ⟨g,j,none⟩=cs[j]? := by
 rcases h.1.2 with ⟨_,h0⟩|⟨g,c,cur,h0,_,hg,h3,_⟩
 ·omega
 ·subst h0
  exact⟨g,c,rfl,h3,(Array.getElem?_eq_some_iff.1 hg).1,h.2 g rfl,fun j hj=>h.1.cellAt j (by have:=h.1.1;omega)⟩
theorem Uh:∀(l:List Cl) (i:Nat) (x:Cl),l[i]? = some x -> ∀j v,(cZ x)[j]? = some v->(l.flatMap cZ)[i*7+j]? = some v
 | y :: r,0,x,h,j,v,hv=>by
  cases (Option.some.inj h)
  have hj:j<7:=(List.getElem?_eq_some_iff.1 hv).1
  rw[List.flatMap_cons,Nat.zero_mul,Nat.zero_add,List.getElem?_append_left (by exact hj)];exact hv
 | y :: r,i+1,x,h,j,v,hv=>by
  have:=Uh r i x (by simpa using h) j v hv
  rw[List.flatMap_cons,List.getElem?_append_right (by show 7<=_;omega),show (i+1)*7+j - (cZ y).length=i*7+j from by show (i+1)*7+j - 7=_;omega]
  exact this
theorem BP:∀(l:List ((Cl×An)×Value)) (i:Nat) (x:(Cl×An)×Value),l[i]? = some x -> ∀j v,(pJ x)[j]? = some v->(l.flatMap pJ)[i*5+j]? = some v
 | y :: r,0,x,h,j,v,hv=>by
  cases (Option.some.inj h)
  have hj:j<5:=(List.getElem?_eq_some_iff.1 hv).1
  rw[List.flatMap_cons,Nat.zero_mul,Nat.zero_add,List.getElem?_append_left (by exact hj)];exact hv
 | y :: r,i+1,x,h,j,v,hv=>by
  have:=BP r i x (by simpa using h) j v hv
  rw[List.flatMap_cons,List.getElem?_append_right (by show 5<=_;omega),show (i+1)*5+j - (pJ y).length=i*5+j from by show (i+1)*5+j - 5=_;omega]
  exact this
variable{c0 c1 c2 c3 c5 c6 c7 c8 c9 c10 c11 c19 c20 c21 Bg c23 c24 c25 JY JZ c28 c29 AV c31 c32 Ai c34 Aj Ak c37 Am Ap c40 zT zU Aq Ar Aw c46 Az AA c49 zV c51 Ah c53 Bh Bj Bl Bo Bq c59 Bv Bz BA BD c64 BF BG BH BI BJ c70 BK c72 BL BM c75 c76 BN BO CS c80 CU CV CW CX c85 CY c87 JA JB JC c91 JD c93 JE JF JG JH JI JJ pK pO pR pU pV c105 pX c107 sS c109 sU sV sZ tq tu tC c116 c117 tH c119 tJ tK tN tV c124 tX tY c127 tZ uf c130 c131 ug uh uj um uo uq c138 c139 uy c141 uz c143 uD c145 c146 uF c148 uG uH uI c152 uJ c154 uK c156 c157 uM c159 c160 uN c162 uO c164 uP uQ c167 c168 uS uT c171 uU c173 uV c175 uX uY uZ vg vk vw c182 c183 vC vF vG vH vI vJ vK vM vN c193 c194 vO c196 vP c198 vS vT c201 vU c203 vV vW c206 vX c208 vY c210 vZ c212 c213 wo wu wC wE c218 wF wG wH c222 wI wJ wK c226 c227 c228 c229 wL wM c232 c233 c234 wO c236 wP wQ wR wS wU wV wW jh ji jk jl jm jo jq jr jv jw jy jA jB jC jD jE jF jG jH jI jJ jK jL jM jO jP jQ jR jS jT jU jV jW jX jY jZ ku kC kD kE kF kG kH kJ kK kL kM kQ kR kT kU kV kW kX kY kZ lq lu lC lF lG lI lJ lK lN lQ lS lT lU lV lX lY lZ l7 l9 mg mD mF mG mJ mM mO mP mQ mV mW mX mY mZ ng ni ny nC nG nI nJ nK nN nO nP nR nS nT nU nV nX nY nZ og oh oq oC oD oG oH oI oJ oK oL oM oN oO oP oQ oU oV oW oZ pq pF pG pI c13 c16 c17 c18:Value}
theorem abK {T:Td}(V:aG T){K2 X:Nat->Prop}{k m m1 m3 m4 H bs bp:Nat}{d:Dk}{S:Ses}{p1 p3 p4:Option Addr}{e1:List Dt}{A:List Int}{P:List Bur.Sp}{x:Hs}{kv:Int}{w w2:World}{Q:Exit->Act->World->Prop}
  (en:En w) (hlt60:k<60) (hm:m<=4*k+10) (hel:e1.length<=8) (hxo:LU x) (gx:Gx k m d S (e1.map (·.x)) A P) (ts2:Ts T K2 X w w2 H d S bp (.slice p1 e1.length m1) (.slice p3 A.length m3) (.slice p4 P.length m4) e1 A P) (sb2:Hb w2 bs x) (hKs2:K2 bs) (w0:x.what=0)
  (hQ:∀{ex:Exit} {d':Dk} {S':Ses} {v1' v3' v4':Value} {e1':List Dt} {A':List Int} {P':List Bur.Sp} {K' X':Nat->Prop} {w':World} {d20 d21 d22 d23 d24 d25 d26 d27 d28 d29 d30 ET EU EW EX EY EZ E8 Fa Fe Fg Fh Fj Fp Fq Fv FB FC FD FK FM FN FP FQ FT FU FV FW FX FY FZ F6 F7 F9 Gf Gg Gh Gi Gj Gm Gn Gp Gs Gu Gw Gy Gz GI GK GL GN GR GU GV GX GY GZ G5 G6 G7 G8 G9 He Hg Ho Hq Hr Ht Hu Hw Hy HY H6 H7 H8 H9 Ia Ib Ic Ie Ig Ih Ii Ij Ik Il Io Ip Iq Ir Iu Iw Iy Iz IB IC IE IG IJ IK IL IQ IU IV IW IX IY IZ I4 I5 I7 I8 I9 Ja Jb Jc Jd Je Jf Jg Jh Ji Jj Jk Jl Jm Jo Jp Jq Jr Js Jt Ju Jv Jw Jy Jz:Value},(ex=.normal \/ ex=.exit 1)->Gx (k+1) (m+4) d' S' (e1'.map (·.x)) A' P'->Ts T K' X' w w' H d' S' bp v1' v3' v4' e1' A' P'->Q ex ⟨#[c0,c1,c2,c3,.pointer (some ⟨H,0,none⟩),c5,c6,c7,c8,c9,c10,c11,.pointer (some ⟨bp,0,none⟩),v1',v3',v4',.int .i64 (k:Int),.pointer (some ⟨bs,0,none⟩),.int .i64 kv,c19,d20,d21,d22,d23,d24,d25,d26,d27,d28,d29,d30,c31,c32,Ai,c34,Aj,Ak,c37,Am,Ap,c40,zT,zU,Aq,Ar,Aw,c46,Az,AA,c49,zV,c51,Ah,c53,Bh,Bj,Bl,Bo,Bq,c59,Bv,Bz,BA,BD,c64,BF,BG,BH,BI,BJ,c70,BK,c72,BL,BM,c75,c76,BN,BO,CS,c80,CU,CV,CW,CX,c85,CY,c87,JA,JB,JC,c91,JD,c93,JE,JF,JG,JH,JI,JJ,pK,pO,pR,pU,pV,c105,pX,c107,ET,EU,EW,EX,EY,EZ,E8,Fa,Fe,Fg,Fh,Fj,Fp,Fq,Fv,FB,FC,FD,FK,FM,FN,FP,FQ,FT,FU,FV,FW,FX,FY,FZ,F6,F7,F9,Gf,Gg,Gh,Gi,Gj,Gm,Gn,Gp,Gs,Gu,Gw,Gy,Gz,GI,GK,GL,GN,GR,GU,GV,GX,GY,GZ,G5,G6,G7,G8,G9,He,Hg,Ho,Hq,Hr,Ht,Hu,Hw,Hy,HY,H6,H7,H8,H9,Ia,Ib,Ic,Ie,Ig,Ih,Ii,Ij,Ik,Il,Io,Ip,Iq,Ir,Iu,Iw,Iy,Iz,IB,IC,IE,IG,IJ,IK,IL,IQ,IU,IV,IW,IX,IY,IZ,I4,I5,I7,I8,I9,Ja,Jb,Jc,Jd,Je,Jf,Jg,Jh,Ji,Jj,Jk,Jl,Jm,Jo,Jp,Jq,Jr,Js,Jt,Ju,Jv,Jw,Jy,Jz,jh,ji,jk,jl,jm,jo,jq,jr,jv,jw,jy,jA,jB,jC,jD,jE,jF,jG,jH,jI,jJ,jK,jL,jM,jO,jP,jQ,jR,jS,jT,jU,jV,jW,jX,jY,jZ,ku,kC,kD,kE,kF,kG,kH,kJ,kK,kL,kM,kQ,kR,kT,kU,kV,kW,kX,kY,kZ,lq,lu,lC,lF,lG,lI,lJ,lK,lN,lQ,lS,lT,lU,lV,lX,lY,lZ,l7,l9,mg,mD,mF,mG,mJ,mM,mO,mP,mQ,mV,mW,mX,mY,mZ,ng,ni,ny,nC,nG,nI,nJ,nK,nN,nO,nP,nR,nS,nT,nU,nV,nX,nY,nZ,og,oh,oq,oC,oD,oG,oH,oI,oJ,oK,oL,oM,oN,oO,oP,oQ,oU,oV,oW,oZ,pq,pF,pG,pI],[]⟩ w') :
  Code.wp Tryz.prog (dW 3 (Yn (Tryz.f4.body.getD .skip))) Q ⟨#[c0,c1,c2,c3,.pointer (some ⟨H,0,none⟩),c5,c6,c7,c8,c9,c10,c11,.pointer (some ⟨bp,0,none⟩),.slice p1 e1.length m1,.slice p3 A.length m3,.slice p4 P.length m4,.int .i64 (k:Int),.pointer (some ⟨bs,0,none⟩),.int .i64 kv,c19,c20,c21,Bg,c23,c24,c25,JY,JZ,c28,c29,AV,c31,c32,Ai,c34,Aj,Ak,c37,Am,Ap,c40,zT,zU,Aq,Ar,Aw,c46,Az,AA,c49,zV,c51,Ah,c53,Bh,Bj,Bl,Bo,Bq,c59,Bv,Bz,BA,BD,c64,BF,BG,BH,BI,BJ,c70,BK,c72,BL,BM,c75,c76,BN,BO,CS,c80,CU,CV,CW,CX,c85,CY,c87,JA,JB,JC,c91,JD,c93,JE,JF,JG,JH,JI,JJ,pK,pO,pR,pU,pV,c105,pX,c107,sS,c109,sU,sV,sZ,tq,tu,tC,c116,c117,tH,c119,tJ,tK,tN,tV,c124,tX,tY,c127,tZ,uf,c130,c131,ug,uh,uj,um,uo,uq,c138,c139,uy,c141,uz,c143,uD,c145,c146,uF,c148,uG,uH,uI,c152,uJ,c154,uK,c156,c157,uM,c159,c160,uN,c162,uO,c164,uP,uQ,c167,c168,uS,uT,c171,uU,c173,uV,c175,uX,uY,uZ,vg,vk,vw,c182,c183,vC,vF,vG,vH,vI,vJ,vK,vM,vN,c193,c194,vO,c196,vP,c198,vS,vT,c201,vU,c203,vV,vW,c206,vX,c208,vY,c210,vZ,c212,c213,wo,wu,wC,wE,c218,wF,wG,wH,c222,wI,wJ,wK,c226,c227,c228,c229,wL,wM,c232,c233,c234,wO,c236,wP,wQ,wR,wS,wU,wV,wW,jh,ji,jk,jl,jm,jo,jq,jr,jv,jw,jy,jA,jB,jC,jD,jE,jF,jG,jH,jI,jJ,jK,jL,jM,jO,jP,jQ,jR,jS,jT,jU,jV,jW,jX,jY,jZ,ku,kC,kD,kE,kF,kG,kH,kJ,kK,kL,kM,kQ,kR,kT,kU,kV,kW,kX,kY,kZ,lq,lu,lC,lF,lG,lI,lJ,lK,lN,lQ,lS,lT,lU,lV,lX,lY,lZ,l7,l9,mg,mD,mF,mG,mJ,mM,mO,mP,mQ,mV,mW,mX,mY,mZ,ng,ni,ny,nC,nG,nI,nJ,nK,nN,nO,nP,nR,nS,nT,nU,nV,nX,nY,nZ,og,oh,oq,oC,oD,oG,oH,oI,oJ,oK,oL,oM,oN,oO,oP,oQ,oU,oV,oW,oZ,pq,pF,pG,pI],[]⟩ w2:=by
 conv=>arg 2;whnf
 have cz0:=sb2 0 _ rfl
 have cz1:=sb2 1 _ rfl
 have cz2:=sb2 2 _ rfl
 have cz3:=sb2 3 _ rfl
 have cz4:=sb2 4 _ rfl
 have cz5:=sb2 5 _ rfl
 have cz6:=sb2 6 _ rfl
 have cz7:=sb2 7 _ rfl
 have cz8:=sb2 8 _ rfl
 have cz9:=sb2 9 _ rfl
 have eq0:(x.what==0)=true:=by simp;omega
 clear w0
 have P1:=ts2.h.open V x.who gx.hz.dp (by omega) hxo.who (by have:=gx.sl;rw[List.length_map] at this;omega)
 by_cases hf:hoF d S x.who=0
 ·have gx2:=gx.open hf
  rw[hf,aB] at P1
  clear hf
  go_wp2_with fail
  refine P1.mono ?_
  clear P1
  rintro e w3 ⟨rfl,h3,hb3⟩
  have ts3:=ts2.op h3 hb3
  have y1:=(sb2.but hb3 (fun g=>g hKs2)) 1 _ rfl
  have hb4:=aj (ah w3) (.cells #[.string x.who,.int .i64 0,.slice none 0 0,.slice none 0 0,.slice none 0 0] 40)
  have ts4:=ts3.kn V hb4
  have hw4:=ts4.h.bl.size
  clear ts2 ts3 h3 hb3 cz0 cz1 cz2 cz3 cz4 cz5 cz6 cz7 cz8 cz9
  go_wp2_with (at_builtin;refine aJ 29 40 5 96 _ Tryz.underlying29 NH rfl (by decide) (by decide) rfl _ _ rfl w.heap.size _ e1.length (e1.flatMap dO) rfl ts4.r1.row hw4 w3.heap.size (dO (dt0 x.who)) rfl rfl (rH _ _ _ _ _ _ _ _ rfl) (ace _) (by omega) ?_;intro v5 w5 own5 hg5 hat5)
  have ts5:=ts4.aho V en own5 hg5 hat5 (ad3 _ _ _)
  exact hQ (by first|exact .inl rfl|exact .inr rfl) (by rw[List.map_append];exact gx2) ts5
 ·have gx2:=gx.abj hf
  rw[ay hf] at P1
  clear hf
  go_wp2_with fail
  refine P1.mono ?_
  clear P1
  rintro e w3 ⟨rfl,h3,hb3⟩
  have ts3:=ts2.op h3 hb3
  clear ts2 h3 hb3
  go_wp2
  exact hQ (by first|exact .inl rfl|exact .inr rfl) (gx2) ts3
theorem ab7 {T:Td}{K2 X:Nat->Prop}{k m m1 m3 m4 H bs bp:Nat}{d:Dk}{S:Ses}{p1 p3 p4:Option Addr}{e1:List Dt}{A:List Int}{P:List Bur.Sp}{x:Hs}{kv:Int}{w w2:World}{Q:Exit->Act->World->Prop}
  (gx:Gx k m d S (e1.map (·.x)) A P) (ts2:Ts T K2 X w w2 H d S bp (.slice p1 e1.length m1) (.slice p3 A.length m3) (.slice p4 P.length m4) e1 A P) (sb2:Hb w2 bs x) (w1:x.what=2 \/ x.what=3 \/ x.what=4 \/ x.what=5)
  (hQ:∀{ex:Exit} {d':Dk} {S':Ses} {v1' v3' v4':Value} {e1':List Dt} {A':List Int} {P':List Bur.Sp} {K' X':Nat->Prop} {w':World} {d20 d21 d22 d23 d24 d25 d26 d27 d28 d29 d30 ET EU EW EX EY EZ E8 Fa Fe Fg Fh Fj Fp Fq Fv FB FC FD FK FM FN FP FQ FT FU FV FW FX FY FZ F6 F7 F9 Gf Gg Gh Gi Gj Gm Gn Gp Gs Gu Gw Gy Gz GI GK GL GN GR GU GV GX GY GZ G5 G6 G7 G8 G9 He Hg Ho Hq Hr Ht Hu Hw Hy HY H6 H7 H8 H9 Ia Ib Ic Ie Ig Ih Ii Ij Ik Il Io Ip Iq Ir Iu Iw Iy Iz IB IC IE IG IJ IK IL IQ IU IV IW IX IY IZ I4 I5 I7 I8 I9 Ja Jb Jc Jd Je Jf Jg Jh Ji Jj Jk Jl Jm Jo Jp Jq Jr Js Jt Ju Jv Jw Jy Jz:Value},(ex=.normal \/ ex=.exit 1)->Gx (k+1) (m+4) d' S' (e1'.map (·.x)) A' P'->Ts T K' X' w w' H d' S' bp v1' v3' v4' e1' A' P'->Q ex ⟨#[c0,c1,c2,c3,.pointer (some ⟨H,0,none⟩),c5,c6,c7,c8,c9,c10,c11,.pointer (some ⟨bp,0,none⟩),v1',v3',v4',.int .i64 (k:Int),.pointer (some ⟨bs,0,none⟩),.int .i64 kv,c19,d20,d21,d22,d23,d24,d25,d26,d27,d28,d29,d30,c31,c32,Ai,c34,Aj,Ak,c37,Am,Ap,c40,zT,zU,Aq,Ar,Aw,c46,Az,AA,c49,zV,c51,Ah,c53,Bh,Bj,Bl,Bo,Bq,c59,Bv,Bz,BA,BD,c64,BF,BG,BH,BI,BJ,c70,BK,c72,BL,BM,c75,c76,BN,BO,CS,c80,CU,CV,CW,CX,c85,CY,c87,JA,JB,JC,c91,JD,c93,JE,JF,JG,JH,JI,JJ,pK,pO,pR,pU,pV,c105,pX,c107,ET,EU,EW,EX,EY,EZ,E8,Fa,Fe,Fg,Fh,Fj,Fp,Fq,Fv,FB,FC,FD,FK,FM,FN,FP,FQ,FT,FU,FV,FW,FX,FY,FZ,F6,F7,F9,Gf,Gg,Gh,Gi,Gj,Gm,Gn,Gp,Gs,Gu,Gw,Gy,Gz,GI,GK,GL,GN,GR,GU,GV,GX,GY,GZ,G5,G6,G7,G8,G9,He,Hg,Ho,Hq,Hr,Ht,Hu,Hw,Hy,HY,H6,H7,H8,H9,Ia,Ib,Ic,Ie,Ig,Ih,Ii,Ij,Ik,Il,Io,Ip,Iq,Ir,Iu,Iw,Iy,Iz,IB,IC,IE,IG,IJ,IK,IL,IQ,IU,IV,IW,IX,IY,IZ,I4,I5,I7,I8,I9,Ja,Jb,Jc,Jd,Je,Jf,Jg,Jh,Ji,Jj,Jk,Jl,Jm,Jo,Jp,Jq,Jr,Js,Jt,Ju,Jv,Jw,Jy,Jz,jh,ji,jk,jl,jm,jo,jq,jr,jv,jw,jy,jA,jB,jC,jD,jE,jF,jG,jH,jI,jJ,jK,jL,jM,jO,jP,jQ,jR,jS,jT,jU,jV,jW,jX,jY,jZ,ku,kC,kD,kE,kF,kG,kH,kJ,kK,kL,kM,kQ,kR,kT,kU,kV,kW,kX,kY,kZ,lq,lu,lC,lF,lG,lI,lJ,lK,lN,lQ,lS,lT,lU,lV,lX,lY,lZ,l7,l9,mg,mD,mF,mG,mJ,mM,mO,mP,mQ,mV,mW,mX,mY,mZ,ng,ni,ny,nC,nG,nI,nJ,nK,nN,nO,nP,nR,nS,nT,nU,nV,nX,nY,nZ,og,oh,oq,oC,oD,oG,oH,oI,oJ,oK,oL,oM,oN,oO,oP,oQ,oU,oV,oW,oZ,pq,pF,pG,pI],[]⟩ w') :
  Code.wp Tryz.prog (dW 3 (Yn (Tryz.f4.body.getD .skip))) Q ⟨#[c0,c1,c2,c3,.pointer (some ⟨H,0,none⟩),c5,c6,c7,c8,c9,c10,c11,.pointer (some ⟨bp,0,none⟩),.slice p1 e1.length m1,.slice p3 A.length m3,.slice p4 P.length m4,.int .i64 (k:Int),.pointer (some ⟨bs,0,none⟩),.int .i64 kv,c19,c20,c21,Bg,c23,c24,c25,JY,JZ,c28,c29,AV,c31,c32,Ai,c34,Aj,Ak,c37,Am,Ap,c40,zT,zU,Aq,Ar,Aw,c46,Az,AA,c49,zV,c51,Ah,c53,Bh,Bj,Bl,Bo,Bq,c59,Bv,Bz,BA,BD,c64,BF,BG,BH,BI,BJ,c70,BK,c72,BL,BM,c75,c76,BN,BO,CS,c80,CU,CV,CW,CX,c85,CY,c87,JA,JB,JC,c91,JD,c93,JE,JF,JG,JH,JI,JJ,pK,pO,pR,pU,pV,c105,pX,c107,sS,c109,sU,sV,sZ,tq,tu,tC,c116,c117,tH,c119,tJ,tK,tN,tV,c124,tX,tY,c127,tZ,uf,c130,c131,ug,uh,uj,um,uo,uq,c138,c139,uy,c141,uz,c143,uD,c145,c146,uF,c148,uG,uH,uI,c152,uJ,c154,uK,c156,c157,uM,c159,c160,uN,c162,uO,c164,uP,uQ,c167,c168,uS,uT,c171,uU,c173,uV,c175,uX,uY,uZ,vg,vk,vw,c182,c183,vC,vF,vG,vH,vI,vJ,vK,vM,vN,c193,c194,vO,c196,vP,c198,vS,vT,c201,vU,c203,vV,vW,c206,vX,c208,vY,c210,vZ,c212,c213,wo,wu,wC,wE,c218,wF,wG,wH,c222,wI,wJ,wK,c226,c227,c228,c229,wL,wM,c232,c233,c234,wO,c236,wP,wQ,wR,wS,wU,wV,wW,jh,ji,jk,jl,jm,jo,jq,jr,jv,jw,jy,jA,jB,jC,jD,jE,jF,jG,jH,jI,jJ,jK,jL,jM,jO,jP,jQ,jR,jS,jT,jU,jV,jW,jX,jY,jZ,ku,kC,kD,kE,kF,kG,kH,kJ,kK,kL,kM,kQ,kR,kT,kU,kV,kW,kX,kY,kZ,lq,lu,lC,lF,lG,lI,lJ,lK,lN,lQ,lS,lT,lU,lV,lX,lY,lZ,l7,l9,mg,mD,mF,mG,mJ,mM,mO,mP,mQ,mV,mW,mX,mY,mZ,ng,ni,ny,nC,nG,nI,nJ,nK,nN,nO,nP,nR,nS,nT,nU,nV,nX,nY,nZ,og,oh,oq,oC,oD,oG,oH,oI,oJ,oK,oL,oM,oN,oO,oP,oQ,oU,oV,oW,oZ,pq,pF,pG,pI],[]⟩ w2:=by
 conv=>arg 2;whnf
 have cz0:=sb2 0 _ rfl
 have eq0:(x.what==0)=false:=by simp;omega
 have eq1:(x.what==1)=false:=by simp;omega
 by_cases w2':x.what=2
 ·have eq2:(x.what==2)=true:=by simp;omega
  clear w1 w2'
  go_wp2
  exact hQ (by first|exact .inl rfl|exact .inr rfl) gx.more ts2
 have eq2:(x.what==2)=false:=by simp;omega
 by_cases w3:x.what=3
 ·have eq3:(x.what==3)=true:=by simp;omega
  clear w1 w2' w3
  go_wp2
  exact hQ (by first|exact .inl rfl|exact .inr rfl) gx.more ts2
 have eq3:(x.what==3)=false:=by simp;omega
 by_cases w4:x.what=4
 ·have eq4:(x.what==4)=true:=by simp;omega
  clear w1 w2' w3 w4
  go_wp2
  exact hQ (by first|exact .inl rfl|exact .inr rfl) gx.more ts2
 have w5:x.what=5:=by omega
 have eq4:(x.what==4)=false:=by simp;omega
 have eq5:(x.what==5)=true:=by simp;omega
 clear w1 w2' w3 w4 w5
 go_wp2
 exact hQ (by first|exact .inl rfl|exact .inr rfl) gx.more ts2
theorem Zw {T:Td}(V:aG T){K2 X:Nat->Prop}{k m m1 m3 m4 H bs bp:Nat}{d:Dk}{S:Ses}{p1 p3 p4:Option Addr}{e1:List Dt}{A:List Int}{P:List Bur.Sp}{x:Hs}{kv:Int}{w w2:World}{Q:Exit->Act->World->Prop}
  (en:En w) (hlt60:k<60) (hm:m<=4*k+10) (hel:e1.length<=8) (h1c:e1.length<=m1) (h1m:m1<=9223372036854775807) (hxo:LU x) (gx:Gx k m d S (e1.map (·.x)) A P) (ts2:Ts T K2 X w w2 H d S bp (.slice p1 e1.length m1) (.slice p3 A.length m3) (.slice p4 P.length m4) e1 A P) (sb2:Hb w2 bs x) (hKs2:K2 bs) (F:Fnd e1 x.who e1.length kv) (w1:x.what=1)
  (hQ:∀{ex:Exit} {d':Dk} {S':Ses} {v1' v3' v4':Value} {e1':List Dt} {A':List Int} {P':List Bur.Sp} {K' X':Nat->Prop} {w':World} {d20 d21 d22 d23 d24 d25 d26 d27 d28 d29 d30 ET EU EW EX EY EZ E8 Fa Fe Fg Fh Fj Fp Fq Fv FB FC FD FK FM FN FP FQ FT FU FV FW FX FY FZ F6 F7 F9 Gf Gg Gh Gi Gj Gm Gn Gp Gs Gu Gw Gy Gz GI GK GL GN GR GU GV GX GY GZ G5 G6 G7 G8 G9 He Hg Ho Hq Hr Ht Hu Hw Hy HY H6 H7 H8 H9 Ia Ib Ic Ie Ig Ih Ii Ij Ik Il Io Ip Iq Ir Iu Iw Iy Iz IB IC IE IG IJ IK IL IQ IU IV IW IX IY IZ I4 I5 I7 I8 I9 Ja Jb Jc Jd Je Jf Jg Jh Ji Jj Jk Jl Jm Jo Jp Jq Jr Js Jt Ju Jv Jw Jy Jz:Value},(ex=.normal \/ ex=.exit 1)->Gx (k+1) (m+4) d' S' (e1'.map (·.x)) A' P'->Ts T K' X' w w' H d' S' bp v1' v3' v4' e1' A' P'->Q ex ⟨#[c0,c1,c2,c3,.pointer (some ⟨H,0,none⟩),c5,c6,c7,c8,c9,c10,c11,.pointer (some ⟨bp,0,none⟩),v1',v3',v4',.int .i64 (k:Int),.pointer (some ⟨bs,0,none⟩),.int .i64 kv,c19,d20,d21,d22,d23,d24,d25,d26,d27,d28,d29,d30,c31,c32,Ai,c34,Aj,Ak,c37,Am,Ap,c40,zT,zU,Aq,Ar,Aw,c46,Az,AA,c49,zV,c51,Ah,c53,Bh,Bj,Bl,Bo,Bq,c59,Bv,Bz,BA,BD,c64,BF,BG,BH,BI,BJ,c70,BK,c72,BL,BM,c75,c76,BN,BO,CS,c80,CU,CV,CW,CX,c85,CY,c87,JA,JB,JC,c91,JD,c93,JE,JF,JG,JH,JI,JJ,pK,pO,pR,pU,pV,c105,pX,c107,ET,EU,EW,EX,EY,EZ,E8,Fa,Fe,Fg,Fh,Fj,Fp,Fq,Fv,FB,FC,FD,FK,FM,FN,FP,FQ,FT,FU,FV,FW,FX,FY,FZ,F6,F7,F9,Gf,Gg,Gh,Gi,Gj,Gm,Gn,Gp,Gs,Gu,Gw,Gy,Gz,GI,GK,GL,GN,GR,GU,GV,GX,GY,GZ,G5,G6,G7,G8,G9,He,Hg,Ho,Hq,Hr,Ht,Hu,Hw,Hy,HY,H6,H7,H8,H9,Ia,Ib,Ic,Ie,Ig,Ih,Ii,Ij,Ik,Il,Io,Ip,Iq,Ir,Iu,Iw,Iy,Iz,IB,IC,IE,IG,IJ,IK,IL,IQ,IU,IV,IW,IX,IY,IZ,I4,I5,I7,I8,I9,Ja,Jb,Jc,Jd,Je,Jf,Jg,Jh,Ji,Jj,Jk,Jl,Jm,Jo,Jp,Jq,Jr,Js,Jt,Ju,Jv,Jw,Jy,Jz,jh,ji,jk,jl,jm,jo,jq,jr,jv,jw,jy,jA,jB,jC,jD,jE,jF,jG,jH,jI,jJ,jK,jL,jM,jO,jP,jQ,jR,jS,jT,jU,jV,jW,jX,jY,jZ,ku,kC,kD,kE,kF,kG,kH,kJ,kK,kL,kM,kQ,kR,kT,kU,kV,kW,kX,kY,kZ,lq,lu,lC,lF,lG,lI,lJ,lK,lN,lQ,lS,lT,lU,lV,lX,lY,lZ,l7,l9,mg,mD,mF,mG,mJ,mM,mO,mP,mQ,mV,mW,mX,mY,mZ,ng,ni,ny,nC,nG,nI,nJ,nK,nN,nO,nP,nR,nS,nT,nU,nV,nX,nY,nZ,og,oh,oq,oC,oD,oG,oH,oI,oJ,oK,oL,oM,oN,oO,oP,oQ,oU,oV,oW,oZ,pq,pF,pG,pI],[]⟩ w') :
  Code.wp Tryz.prog (dW 3 (Yn (Tryz.f4.body.getD .skip))) Q ⟨#[c0,c1,c2,c3,.pointer (some ⟨H,0,none⟩),c5,c6,c7,c8,c9,c10,c11,.pointer (some ⟨bp,0,none⟩),.slice p1 e1.length m1,.slice p3 A.length m3,.slice p4 P.length m4,.int .i64 (k:Int),.pointer (some ⟨bs,0,none⟩),.int .i64 kv,c19,c20,c21,Bg,c23,c24,c25,JY,JZ,c28,c29,AV,c31,c32,Ai,c34,Aj,Ak,c37,Am,Ap,c40,zT,zU,Aq,Ar,Aw,c46,Az,AA,c49,zV,c51,Ah,c53,Bh,Bj,Bl,Bo,Bq,c59,Bv,Bz,BA,BD,c64,BF,BG,BH,BI,BJ,c70,BK,c72,BL,BM,c75,c76,BN,BO,CS,c80,CU,CV,CW,CX,c85,CY,c87,JA,JB,JC,c91,JD,c93,JE,JF,JG,JH,JI,JJ,pK,pO,pR,pU,pV,c105,pX,c107,sS,c109,sU,sV,sZ,tq,tu,tC,c116,c117,tH,c119,tJ,tK,tN,tV,c124,tX,tY,c127,tZ,uf,c130,c131,ug,uh,uj,um,uo,uq,c138,c139,uy,c141,uz,c143,uD,c145,c146,uF,c148,uG,uH,uI,c152,uJ,c154,uK,c156,c157,uM,c159,c160,uN,c162,uO,c164,uP,uQ,c167,c168,uS,uT,c171,uU,c173,uV,c175,uX,uY,uZ,vg,vk,vw,c182,c183,vC,vF,vG,vH,vI,vJ,vK,vM,vN,c193,c194,vO,c196,vP,c198,vS,vT,c201,vU,c203,vV,vW,c206,vX,c208,vY,c210,vZ,c212,c213,wo,wu,wC,wE,c218,wF,wG,wH,c222,wI,wJ,wK,c226,c227,c228,c229,wL,wM,c232,c233,c234,wO,c236,wP,wQ,wR,wS,wU,wV,wW,jh,ji,jk,jl,jm,jo,jq,jr,jv,jw,jy,jA,jB,jC,jD,jE,jF,jG,jH,jI,jJ,jK,jL,jM,jO,jP,jQ,jR,jS,jT,jU,jV,jW,jX,jY,jZ,ku,kC,kD,kE,kF,kG,kH,kJ,kK,kL,kM,kQ,kR,kT,kU,kV,kW,kX,kY,kZ,lq,lu,lC,lF,lG,lI,lJ,lK,lN,lQ,lS,lT,lU,lV,lX,lY,lZ,l7,l9,mg,mD,mF,mG,mJ,mM,mO,mP,mQ,mV,mW,mX,mY,mZ,ng,ni,ny,nC,nG,nI,nJ,nK,nN,nO,nP,nR,nS,nT,nU,nV,nX,nY,nZ,og,oh,oq,oC,oD,oG,oH,oI,oJ,oK,oL,oM,oN,oO,oP,oQ,oU,oV,oW,oZ,pq,pF,pG,pI],[]⟩ w2:=by
 conv=>arg 2;whnf
 have cz0:=sb2 0 _ rfl
 have cz1:=sb2 1 _ rfl
 have cz2:=sb2 2 _ rfl
 have cz3:=sb2 3 _ rfl
 have cz4:=sb2 4 _ rfl
 have cz5:=sb2 5 _ rfl
 have cz6:=sb2 6 _ rfl
 have cz7:=sb2 7 _ rfl
 have cz8:=sb2 8 _ rfl
 have cz9:=sb2 9 _ rfl
 have eq0:(x.what==0)=false:=by simp;omega
 have eq1:(x.what==1)=true:=by simp;omega
 clear w1
 rcases F with ⟨rfl,hno⟩|⟨j,y,hj,hy,hyw,rfl⟩
 ·clear hno
  go_wp2
  exact hQ (by first|exact .inl rfl|exact .inr rfl) (gx.more) ts2
 ·have hj':(j:Int)<(e1.length:Int):=by omega
  have hj0:decide ((j:Int)<0)=false:=by simp
  have hcp:(j:Int)<=(m1:Int):=by omega
  have hcp1:(j:Int)+1<=(m1:Int):=by omega
  have hcp2:(j:Int)+1<=(e1.length:Int):=by omega
  obtain⟨g,eg,hgl,hKg,b0,b1,b2,b3,b4⟩:=ts2.r1.at hy
  cases eg
  have hym:=List.mem_of_getElem? hy
  have hyx:(e1.map (·.x))[j]? = some y.x:=by rw[List.getElem?_map,hy];rfl
  have dq:=ts2.r1.each _ hym
  obtain⟨⟨yw,ytd⟩,va,vb,us⟩:=y
  have hyw':yw=x.who:=hyw
  subst hyw'
  obtain⟨pa,ca,ea,ha1,ha2⟩:=dq.a.form
  obtain⟨pb,cb,eb,hb1,hb2⟩:=dq.b.form
  simp only at ea eb b0 b1 b2 b3 b4
  subst ea eb
  have hbA:=aj (ah w2) (.cells #[.string x.who,.int .i64 0,.slice pa ytd.length ca,.slice pb ytd.length cb,.slice none 0 0] 40)
  have tb0:=Tb.new w2 40 ⟨⟨x.who,ytd⟩,.slice pa ytd.length ca,.slice pb ytd.length cb,us⟩
  obtain⟨wA,hwA⟩:∃wA,wA=w2.alloc (.cells #[.string x.who,.int .i64 0,.slice pa ytd.length ca,.slice pb ytd.length cb,.slice none 0 0] 40):=⟨_,rfl⟩
  rw[<- hwA] at hbA tb0
  have tsA:=ts2.freeze V hbA
  have dqA:=dq.but (E:=fun _=>False) (X':=Kn X w2 wA) (.below hbA) (fun _ _=>id) (fun _ _ g=>.inl g)
  have sbA:=sb2.step hbA
  have hXA:Kn X w2 wA w2.heap.size:=.inr ⟨Nat.le_refl _,tb0.lt⟩
  have hKs3:Kn K2 w2 wA bs:=.inl hKs2
  obtain⟨Bx,hBx⟩:∃Bx,Bx=w2.heap.size:=⟨_,rfl⟩
  rw[<- hBx] at tb0 hXA
  obtain⟨KA,hKA'⟩:∃KA,KA=Kn K2 w2 wA:=⟨_,rfl⟩
  obtain⟨XA,hXA'⟩:∃XA,XA=Kn X w2 wA:=⟨_,rfl⟩
  rw[<- hKA'] at tsA hKs3
  rw[<- hXA'] at tsA hXA dqA
  go_upto_region 44 with fail
  go_cut [21] from 183 to 186 (fun v21 wy=>v21=.pointer (some ⟨Bx,0,none⟩)/\wy=wA)
  case first=>
   go_wp2
   go_meet
   case rel=>exact⟨by rw[hBx],hwA.symm⟩
  case rest=>
  obtain⟨rfl,rfl⟩:=hcut
  obtain⟨wy,rfl⟩:∃wy,wy=wc:=⟨wc,rfl⟩
  refine ‹∀(a:Act) (w:World),Code.wp _ _ _ a w->_› _ _ ?_
  have hglA:=Nat.lt_of_lt_of_le hgl hbA.size
  clear hwA hBx hKA' hXA' hbA ts2 sb2 dq cz0 cz1 cz2 cz3 cz4 cz5 cz6 cz7 cz8 cz9 b0 b1 b2 b3 b4 hKs2 hKg hgl
  go_upto_region 47 with (at_builtin;refine iw 29 40 5 96 _ Tryz.underlying29 NH rfl (by decide) (by decide) rfl _ _ rfl wy.heap.size _ 0 [] rfl (World.ownsRow_nil _ _ _ _) (Nat.le_refl _) g 0 j m1 ((e1.take j).flatMap dO) rfl (by rw[dY,List.length_take];omega) (fun i u hi=>by rw[Nat.zero_add,tsA.r1.row.cellAt i (by have:=(List.getElem?_eq_some_iff.1 hi).1;rw[dY,List.length_take] at this;omega)];exact acu hi) (QK (fun e he=>tsA.r1.each e (List.mem_of_mem_take he))) (by omega) ?_;intro v4' w4 own4 hg4 hat4;have hbB:Below wy.heap.size wy w4:=(Below.refl _ _).grown hg4 (Nat.le_refl _) (fun k e=>by cases e))
  go_cut [13] from 192 to 197 (fun v1 wz=>∃K6:Nat->Prop,Ts T K6 XA w wz H d S bp v1 (.slice p3 A.length m3) (.slice p4 P.length m4) (e1.eraseIdx j) A P/\Tb wz Bx ⟨⟨x.who,ytd⟩,.slice pa ytd.length ca,.slice pb ytd.length cb,us⟩/\yP XA wz ⟨⟨x.who,ytd⟩,.slice pa ytd.length ca,.slice pb ytd.length cb,us⟩/\K6 bs/\Hb wz bs x)
  case first=>
   by_cases hcap:j+1<m1
   ·go_wp2_with (at_builtin;refine iw 29 40 5 96 _ Tryz.underlying29 NH rfl (by decide) (by decide) rfl _ _ rfl wy.heap.size _ (0+j) ([]++(e1.take j).flatMap dO) rfl own4 hbB.size g ((j+1)*5) _ _ ((e1.drop (j+1)).flatMap dO) rfl (by rw[dY,List.length_drop]) (fun i u hi=>by rw[(hbB.cell (p:=⟨g,(j+1)*5+i,none⟩) hglA),tsA.r1.row.cellAt _ (by have:=(List.getElem?_eq_some_iff.1 hi).1;rw[dY,List.length_drop] at this;omega)];exact aa8 (by omega) hi) (QK (fun e he=>tsA.r1.each e (List.mem_of_mem_drop he))) (by omega) ?_;intro v5 w5 own5 hg5 hat5)
    go_meet
    case rel=>
     have hbC:Below wy.heap.size wy w5:=hbB.grown hg5 hbB.size (fun k e=>(own4.lt k e).1)
     have ts3:=tsA.kn V hbC
     have row5:w5.ownsRow wy.heap.size 40 5 v5 (e1.eraseIdx j).length ((e1.eraseIdx j).flatMap dO):=by rw[List.eraseIdx_eq_take_drop_succ,List.length_append,List.length_take,List.length_drop,List.flatMap_append,Nat.min_eq_left (by omega)];rw[Nat.zero_add,List.nil_append] at own5;exact own5
     have ts4:=ts3.swap (es:=e1.eraseIdx j) row5 tsA.h.bl.size (fun i h1 h2=>⟨.inr ⟨h1,h2⟩,fun hX=>by have:=tsA.h.kl i (tsA.xk i hX);omega,fun hv=>by have:=(bV tsA.r3.row hv).2;omega,fun hv=>by have:=(bV tsA.r4.row hv).2;omega⟩) (fun e he=>ts3.r1.each e (List.mem_of_mem_eraseIdx he))
     exact⟨_,ts4,tb0.step hbC,dqA.but (E:=fun _=>False) (X':=XA) (.below hbC) (fun _ _=>id) (fun _ _ g=>g),.inl hKs3,sbA.step hbC⟩
   ·have hcap':m1<=j+1:=by omega
    clear hcap
    go_wp2_with (at_builtin;refine iw 29 40 5 96 _ Tryz.underlying29 NH rfl (by decide) (by decide) rfl _ _ rfl wy.heap.size _ (0+j) ([]++(e1.take j).flatMap dO) rfl own4 hbB.size g 0 _ _ ((e1.drop (j+1)).flatMap dO) rfl (by rw[dY,List.length_drop]) (fun i u hi=>by have:=(List.getElem?_eq_some_iff.1 hi).1;rw[dY,List.length_drop] at this;omega) (QK (fun e he=>tsA.r1.each e (List.mem_of_mem_drop he))) (by omega) ?_;intro v5 w5 own5 hg5 hat5)
    go_meet
    case rel=>
     have hbC:Below wy.heap.size wy w5:=hbB.grown hg5 hbB.size (fun k e=>(own4.lt k e).1)
     have ts3:=tsA.kn V hbC
     have row5:w5.ownsRow wy.heap.size 40 5 v5 (e1.eraseIdx j).length ((e1.eraseIdx j).flatMap dO):=by rw[List.eraseIdx_eq_take_drop_succ,List.length_append,List.length_take,List.length_drop,List.flatMap_append,Nat.min_eq_left (by omega)];rw[Nat.zero_add,List.nil_append] at own5;exact own5
     have ts4:=ts3.swap (es:=e1.eraseIdx j) row5 tsA.h.bl.size (fun i h1 h2=>⟨.inr ⟨h1,h2⟩,fun hX=>by have:=tsA.h.kl i (tsA.xk i hX);omega,fun hv=>by have:=(bV tsA.r3.row hv).2;omega,fun hv=>by have:=(bV tsA.r4.row hv).2;omega⟩) (fun e he=>ts3.r1.each e (List.mem_of_mem_eraseIdx he))
     exact⟨_,ts4,tb0.step hbC,dqA.but (E:=fun _=>False) (X':=XA) (.below hbC) (fun _ _=>id) (fun _ _ g=>g),.inl hKs3,sbA.step hbC⟩
  case rest=>
  obtain⟨K6,ts4,tb5,dq5,hKs5,sb5⟩:=hcut
  refine ‹∀(a:Act) (w:World),Code.wp _ _ _ a w->_› _ _ ?_
  clear tsA dqA sbA tb0 hKs3 own4 hg4 hat4 hbB hglA
  have y1:=sb5 1 _ rfl
  have P1:=ts4.h.close V x.who gx.hz.dp (by omega) hxo.who
  obtain⟨gy,gn⟩:=gx.close hyx
  simp only at gy gn
  by_cases hf:hcF d S x.who=0
  ·have gx2:=gy hf
   rw[hf,aB] at P1
   clear gy gn hf
   go_wp2_with fail
   refine P1.mono ?_
   clear P1
   rintro e w6 ⟨rfl,h6,hb6⟩
   have ts5:=ts4.op h6 hb6
   have tb6:=tb5.but hb6 (fun g=>g (ts4.xk _ hXA))
   have dq6:=dq5.but (X':=XA) hb6 (fun i hi g=>g (ts4.xk i hi)) (fun _ _ g=>g)
   have hn6:ytd.length<=1000:=dq6.n
   have hAl:=gx2.small (by omega)
   rw[List.length_append,List.length_append] at hAl
   generalize hcD d S x.who=d6 at ts5 gx2
   generalize iQ S x.who=S6 at ts5 gx2
   clear h6 hb6 ts4 tb5 dq5 hKs5 sb5 y1
   go_wp2_with fail
   go_loopw [14,15,25] (fun v3' v4' i wr=>∃(q:Nat) (K7:Nat->Prop),i=.int .i64 q/\q<=ytd.length/\Ts T K7 XA w wr H d6 S6 bp u13 v3' v4' (e1.eraseIdx j) (A++gA (ytd.take q)) (P++gP (ytd.take q))/\Tb wr Bx ⟨⟨x.who,ytd⟩,.slice pa ytd.length ca,.slice pb ytd.length cb,us⟩/\yP XA wr ⟨⟨x.who,ytd⟩,.slice pa ytd.length ca,.slice pb ytd.length cb,us⟩) (fun _ _ i _=>ytd.length - (intOf i).toNat)
   case atStart=>exact⟨0,_,rfl,by omega,by rw[List.take_zero];show Ts _ _ _ _ _ _ _ _ _ _ _ _ _ (A ++ []) (P ++ []);rw[List.append_nil,List.append_nil];exact ts5,tb6,dq6⟩
   case round=>
    clear ts5 tb6 dq6
    obtain⟨q,K7,rfl,hq,ts7,tb7,dq7⟩:=hrel
    obtain⟨k0,k1,k2,k3,k4⟩:=id tb7
    simp only at k0 k1 k2 k3 k4
    by_cases hlq:q<ytd.length
    ·have hlq':(q:Int)<(ytd.length:Int):=by omega
     obtain⟨⟨yc,ya⟩,hyt⟩:∃t,ytd[q]? = some t:=⟨ytd[q],List.getElem?_eq_getElem hlq⟩
     have dqa:Fz XA wr 33 7 (.slice pa ytd.length ca) ytd.length ((ytd.map Prod.fst).flatMap cZ):=dq7.a
     have dqb:Fz XA wr 46 5 (.slice pb ytd.length cb) ytd.length ((ytd.zip us).flatMap pJ):=dq7.b
     have hum:us.length=ytd.length:=dq7.m
     obtain⟨u,hu⟩:∃u,us[q]? = some u:=⟨us[q]'(by rw[hum];exact hlq),List.getElem?_eq_getElem _⟩
     obtain⟨ga',ca',ea,_,hga,hXa,hcl⟩:=dqa.at (by omega)
     cases ea
     obtain⟨gb',cb',eb,_,hgb,hXb,hcl2⟩:=dqb.at (by omega)
     cases eb
     have hl7:((ytd.map Prod.fst).flatMap cZ).length=ytd.length*7:=by rw[jg (k:=7) (fun _=>rfl),List.length_map]
     have hl5:((ytd.zip us).flatMap pJ).length=ytd.length*5:=by rw[jg (k:=5) (fun _=>rfl),List.length_zip,hum,Nat.min_self]
     have hyc:(ytd.map Prod.fst)[q]? = some yc:=by rw[List.getElem?_map,hyt];rfl
     have hza:(ytd.zip us)[q]? = some ((yc,ya),u):=by rw[List.getElem?_zip_eq_some];exact⟨hyt,hu⟩
     have z0:wr.cell? ⟨ga',q*7,none⟩=some (.int .i64 yc.what):=(hcl (q*7) (by omega)).trans (Uh _ q yc hyc 0 _ rfl)
     have u0:wr.cell? ⟨gb',q*5,none⟩=some (.int .i64 ya.p.1):=(hcl2 (q*5) (by omega)).trans (BP _ q _ hza 0 _ rfl)
     have u1:=(hcl2 (q*5+1) (by omega)).trans (BP _ q _ hza 1 _ rfl)
     have u2:=(hcl2 (q*5+2) (by omega)).trans (BP _ q _ hza 2 _ rfl)
     have etk:ytd.take (q+1)=ytd.take q ++ [(yc,ya)]:=by rw[List.take_add_one,hyt];rfl
     have hla:(gA (ytd.take q)).length+(gP (ytd.take q)).length<=1000:=by rw[Ul,List.length_take];omega
     have hw7:=ts7.h.bl.size
     clear hcl hcl2 hyt hu hyc hza dqa dqb
     by_cases w7:yc.what=7
     ·have g7:(yc.what==7)=true:=by simp[w7]
      have eA:gA (ytd.take (q+1))=gA (ytd.take q) ++ [ya.ad]:=by rw[etk,MK,if_pos w7]
      have eP:gP (ytd.take (q+1))=gP (ytd.take q):=by rw[etk,MH,if_pos w7,List.append_nil]
      have hb8:=aj (ah wr) (.cells #[.int .i64 ya.ad] 3)
      have ts8:=ts7.kn V hb8
      obtain⟨p3',m3',rfl,h3c,h3m⟩:=ts7.r3.form
      have hw8:=ts8.h.bl.size
      clear w7 etk ts7
      go_wp2_with (at_builtin;refine aJ 57 3 1 8 _ Tryz.underlying57 afr rfl (by decide) (by decide) rfl _ _ rfl w.heap.size _ (A++gA (ytd.take q)).length (inV (A++gA (ytd.take q))) rfl ts8.r3.row hw8 wr.heap.size [.int .i64 ya.ad] rfl rfl (abV _ _ _ _ rfl) (ZV _) (by rw[List.length_append];omega) ?_;intro v9 w9 own9 hg9 hat9)
      have ts9:=ts8.agZ V en own9 hg9 hat9
      have hb9:=rZ hg9
      have hx9:∀i,XA i -> ¬(Value.slice p3' (A++gA (ytd.take q)).length m3').ownBlock=some i:=fun i hi g=>(ts8.r3.blk i g).2 hi
      exact⟨⟨q+1,_,by go_num,by omega,by rw[eA,eP,<- List.append_assoc];exact ts9,(tb7.step hb8).but hb9 (fun g=>hx9 _ hXA g),(dq7.but (E:=fun _=>False) (X':=XA) (.below hb8) (fun _ _=>id) (fun _ _ g=>g)).but hb9 hx9 (fun _ _ g=>g)⟩,by simp[intOf];omega⟩
     ·have g7:(yc.what==7)=false:=by simp[w7]
      have eA:gA (ytd.take (q+1))=gA (ytd.take q):=by rw[etk,MK,if_neg w7,List.append_nil]
      have eP:gP (ytd.take (q+1))=gP (ytd.take q) ++ [ya.p]:=by rw[etk,MH,if_neg w7]
      have hb8:=aj (ah wr) (.cells #[.int .i64 ya.p.1,.int .i64 ya.p.2] 31)
      have ts8:=ts7.kn V hb8
      obtain⟨p4',m4',rfl,h4c,h4m⟩:=ts7.r4.form
      have hw8:=ts8.h.bl.size
      clear w7 etk ts7
      go_wp2_with (at_builtin;refine aJ 44 31 2 16 _ Tryz.underlying44 afy rfl (by decide) (by decide) rfl _ _ rfl w.heap.size _ (P++gP (ytd.take q)).length (pfV (P++gP (ytd.take q))) rfl ts8.r4.row hw8 wr.heap.size [.int .i64 ya.p.1,.int .i64 ya.p.2] rfl rfl (ad8 _ _ _ _ _ rfl) (XH _ _) (by rw[List.length_append];omega) ?_;intro v9 w9 own9 hg9 hat9)
      have ts9:=ts8.pushP V en own9 hg9 hat9
      have hb9:=rZ hg9
      have hx9:∀i,XA i -> ¬(Value.slice p4' (P++gP (ytd.take q)).length m4').ownBlock=some i:=fun i hi g=>(ts8.r4.blk i g).2 hi
      exact⟨⟨q+1,_,by go_num,by omega,by rw[eA,eP,<- List.append_assoc];exact ts9,(tb7.step hb8).but hb9 (fun g=>hx9 _ hXA g),(dq7.but (E:=fun _=>False) (X':=XA) (.below hb8) (fun _ _=>id) (fun _ _ g=>g)).but hb9 hx9 (fun _ _ g=>g)⟩,by simp[intOf];omega⟩
    ·have hql:q=ytd.length:=by omega
     rw[hql,List.take_length] at ts7
     clear tb7 dq7 hql
     go_wp2
     exact hQ (by first|exact .inl rfl|exact .inr rfl) (by rw[ZH];exact gx2) ts7
  ·have gx2:=gn hf
   rw[ay hf] at P1
   clear gy gn hf tb5 dq5
   go_wp2_with fail
   refine P1.mono ?_
   clear P1
   rintro e w6 ⟨rfl,h6,hb6⟩
   have ts5:=ts4.op h6 hb6
   clear h6 hb6 ts4
   go_wp2
   exact hQ (by first|exact .inl rfl|exact .inr rfl) (by rw[ZH];exact gx2) ts5
theorem af5 {L:List Pr}{A:List Int}{P:List Bur.Sp}(gq:Gq L A P)(ha:A.length<=200){q:Option Addr}{c:Nat}{w:World}(hp:sH w q L)(hl:L.length<=1000)(hs:∀x∈L,x.1.size<4294967281)(hm:rP w) :
  Calls Tryz.prog 18 #[.slice q L.length c,.string ⟨#[120]⟩,.agg #[.int .i64 0,.int .i64 26]] w fun e w'=>e=.returned (.tuple #[.int .i64 (A.length:Int),.int .i64 62,.nilIface])/\Below w.heap.size w w':=by
 obtain⟨u1,u2,u3⟩:=gq.use ha
 have h:=Au.ag2 L q c nx.data.toList 0 26 w hp hl hs hm (by decide) ⟨by decide,by decide⟩ ⟨by decide,by decide⟩
 rw[show ((0:Int),(26:Int))=gp from rfl,u1,u2,u3,aB] at h
 exact h
theorem aeH {L:List Pr}{A:List Int}{P:List Bur.Sp}(gq:Gq L A P)(ha:P.length+1<=60){q:Option Addr}{c:Nat}{w:World}(hp:sH w q L)(hl:L.length<=1000)(hs:∀x∈L,x.1.size<4294967281)(hm:rP w) :
  Calls Tryz.prog 19 #[.slice q L.length c,.string ⟨#[120]⟩] w fun e w'=>∃pu cu,e=.returned (.tuple #[.slice pu (P.length+1) cu,.nilIface])/\Below w.heap.size w w':=by
 obtain⟨u1,u2⟩:=gq.pfF ha
 refine (Au.QI L q c nx.data.toList w hp hl hs hm (by decide)).mono ?_
 rintro e w' ⟨v,rfl,row,hb⟩
 obtain⟨pu,cu,rfl⟩:=aA row
 rw[u1,aB,u2]
 exact⟨pu,cu,rfl,hb⟩
theorem aaG {T:Td}(V:aG T){K X:Nat->Prop}{k m m3 m4 H bp:Nat}{d:Dk}{S:Ses}{p3 p4:Option Addr}{v1:Value}{e1:List Dt}{A:List Int}{P:List Bur.Sp}{w wx:World}(hk:k<=60)(hm:m<=4*k+10)(gx:Gx k m d S (e1.map (·.x)) A P)(ts:Ts T K X w wx H d S bp v1 (.slice p3 A.length m3) (.slice p4 P.length m4) e1 A P) :
  Code.wp Tryz.prog (dW 14 (Tryz.f4.body.getD .skip)) (bodyPost Tryz.prog Tryz.f4 fun e w'=>e=.returned (.bool true)/\Below w.heap.size w w') ⟨#[c0,c1,c2,c3,.pointer (some ⟨H,0,none⟩),c5,c6,c7,c8,c9,c10,c11,.pointer (some ⟨bp,0,none⟩),c13,.slice p3 A.length m3,.slice p4 P.length m4,c16,c17,c18,c19,c20,c21,Bg,c23,c24,c25,JY,JZ,c28,c29,AV,c31,c32,Ai,c34,Aj,Ak,c37,Am,Ap,c40,zT,zU,Aq,Ar,Aw,c46,Az,AA,c49,zV,c51,Ah,c53,Bh,Bj,Bl,Bo,Bq,c59,Bv,Bz,BA,BD,c64,BF,BG,BH,BI,BJ,c70,BK,c72,BL,BM,c75,c76,BN,BO,CS,c80,CU,CV,CW,CX,c85,CY,c87,JA,JB,JC,c91,JD,c93,JE,JF,JG,JH,JI,JJ,pK,pO,pR,pU,pV,c105,pX,c107,sS,c109,sU,sV,sZ,tq,tu,tC,c116,c117,tH,c119,tJ,tK,tN,tV,c124,tX,tY,c127,tZ,uf,c130,c131,ug,uh,uj,um,uo,uq,c138,c139,uy,c141,uz,c143,uD,c145,c146,uF,c148,uG,uH,uI,c152,uJ,c154,uK,c156,c157,uM,c159,c160,uN,c162,uO,c164,uP,uQ,c167,c168,uS,uT,c171,uU,c173,uV,c175,uX,uY,uZ,vg,vk,vw,c182,c183,vC,vF,vG,vH,vI,vJ,vK,vM,vN,c193,c194,vO,c196,vP,c198,vS,vT,c201,vU,c203,vV,vW,c206,vX,c208,vY,c210,vZ,c212,c213,wo,wu,wC,wE,c218,wF,wG,wH,c222,wI,wJ,wK,c226,c227,c228,c229,wL,wM,c232,c233,c234,wO,c236,wP,wQ,wR,wS,wU,wV,wW,jh,ji,jk,jl,jm,jo,jq,jr,jv,jw,jy,jA,jB,jC,jD,jE,jF,jG,jH,jI,jJ,jK,jL,jM,jO,jP,jQ,jR,jS,jT,jU,jV,jW,jX,jY,jZ,ku,kC,kD,kE,kF,kG,kH,kJ,kK,kL,kM,kQ,kR,kT,kU,kV,kW,kX,kY,kZ,lq,lu,lC,lF,lG,lI,lJ,lK,lN,lQ,lS,lT,lU,lV,lX,lY,lZ,l7,l9,mg,mD,mF,mG,mJ,mM,mO,mP,mQ,mV,mW,mX,mY,mZ,ng,ni,ny,nC,nG,nI,nJ,nK,nN,nO,nP,nR,nS,nT,nU,nV,nX,nY,nZ,og,oh,oq,oC,oD,oG,oH,oI,oJ,oK,oL,oM,oN,oO,oP,oQ,oU,oV,oW,oZ,pq,pF,pG,pI],[]⟩ wx:=by
 conv=>arg 2;whnf
 have hsm:=gx.small hk
 have gq:=gx.gl
 have hAll:=adh gx.hz.dp (by omega)
 have hSm:=WQ gx.hz.dp.ok
 have tsd:=ts.kn V (ah wx).drew
 have PA:=tsd.h.all V gx.hz.dp (by omega)
 obtain⟨z0,z1⟩:=id ts.pz
 have zl:=World.block_lt_of_cell? _ _ z0
 have eP:((P.length+1:Nat):Int)=(P.length:Int)+1:=by omega
 clear ts
 go_upto_region 83 with fail
 go_region_held3 (fun wz=>wz.cell? ⟨bp,0,none⟩=some (.int .i64 0)/\wz.cell? ⟨bp,1,none⟩=some (.int .i64 26)) (first|exact⟨z0,z1⟩|exact⟨g20,g21⟩|exact⟨g10,g11⟩)
  (first
   | (go_at_call 15;refine PA.mono ?_;clear PA;rintro e w5 ⟨q5,c5',rfl,hc5,hp5,hb5⟩;have g10:=(hb5.cell (p:=⟨bp,0,none⟩) zl).trans z0;have g11:=(hb5.cell (p:=⟨bp,1,none⟩) zl).trans z1;have ts5:=tsd.kn V hb5;have PU:=af5 gq (by omega) (c:=c5') hp5.at hAll hSm ts5.h.en.mx)
   | (go_at_call 18;refine PU.mono ?_;clear PU;rintro e w6 ⟨rfl,hb6⟩;have ts6:=ts5.kn V hb6;have g20:=(hb6.cell (p:=⟨bp,0,none⟩) (Nat.lt_of_lt_of_le zl hb5.size)).trans g10;have g21:=(hb6.cell (p:=⟨bp,1,none⟩) (Nat.lt_of_lt_of_le zl hb5.size)).trans g11))
 clear g10 g11 g20 g21 z0 z1 hp5 hb5 hb6 ts5 tsd
 have PA:=ts6.h.all V gx.hz.dp (by omega)
 go_wp2_with fail
 refine PA.mono ?_
 clear PA
 rintro e w7 ⟨q7,c7',rfl,hc7,hp7,hb7⟩
 have ts7:=ts6.kn V hb7
 have PP:=aeH gq (by omega) (c:=c7') hp7.at hAll hSm ts7.h.en.mx
 clear ts6 hp7 hb7
 go_wp2_with fail
 refine PP.mono ?_
 clear PP
 rintro e w8 ⟨pu,cu,rfl,hb8⟩
 have bw:=ak ts7.h.bl hb8
 have eq1:((P.length+1:Nat):Int)=(P.length:Int)+1:=by omega
 clear ts7 hb8
 go_wp2
 go_ret
 exact⟨by simp,bw⟩
theorem rE.atA {n0:Nat}{K X:Nat->Prop}{w:World}{p:Option Addr}{c:Nat}{A:List Int}(h:rE n0 K X w 3 1 (.slice p A.length c) A.length (inV A)){i:Nat}{a:Int}(hi:A[i]? = some a):∃g,p=some ⟨g,0,none⟩/\g<w.heap.size/\w.cell? ⟨g,i,none⟩=some (.int .i64 a):=by
 have hlt:=(List.getElem?_eq_some_iff.1 hi).1
 rcases h.row.2 with ⟨_,h0⟩|⟨g,c',cur,h0,_,hg,_⟩
 ·omega
 ·cases h0
  exact⟨g,rfl,(Array.getElem?_eq_some_iff.1 hg).1,(h.row.cellAt _ (by omega)).trans (by simp[inV,hi])⟩
theorem UK:∀(l:List Bur.Sp) (i:Nat) (q:Bur.Sp),l[i]? = some q->(pfV l)[i*2]? = some (.int .i64 q.1)/\(pfV l)[i*2+1]? = some (.int .i64 q.2)
 | y :: r,0,x,h=>by cases (Option.some.inj h);exact⟨rfl,rfl⟩
 | y :: r,i+1,x,h=>by
  have:=UK r i x (by simpa using h)
  have f:∀j,(pfV (y :: r))[(i+1)*2+j]? = (pfV r)[i*2+j]? := fun j=>by
   show (qM y++pfV r)[_]? = _
   rw[List.getElem?_append_right (by show 2<=_;omega),show (i+1)*2+j - (qM y).length=i*2+j from by show (i+1)*2+j - 2=_;omega]
  exact⟨(f 0).trans this.1,(f 1).trans this.2⟩
theorem rE.atP {n0:Nat}{K X:Nat->Prop}{w:World}{p:Option Addr}{c:Nat}{P:List Bur.Sp}(h:rE n0 K X w 31 2 (.slice p P.length c) P.length (pfV P)){i:Nat}{q:Bur.Sp}(hi:P[i]? = some q):∃g,p=some ⟨g,0,none⟩/\g<w.heap.size/\w.cell? ⟨g,i*2,none⟩=some (.int .i64 q.1)/\w.cell? ⟨g,i*2+1,none⟩=some (.int .i64 q.2):=by
 have hlt:=(List.getElem?_eq_some_iff.1 hi).1
 rcases h.row.2 with ⟨_,h0⟩|⟨g,c',cur,h0,_,hg,_⟩
 ·omega
 ·cases h0
  obtain⟨a0,a1⟩:=UK P i q hi
  exact⟨g,rfl,(Array.getElem?_eq_some_iff.1 hg).1,(h.row.cellAt _ (by omega)).trans a0,(h.row.cellAt _ (by omega)).trans a1⟩
theorem Xj {p q:Bur.Sp}{b:Bool}(hp:Bur.OkP p)(hq:Bur.OkP q)(h:Bur.inP p q=b)(w:World) :
  Calls Tryz.prog 17 #[.agg #[.int .i64 p.1,.int .i64 p.2],.agg #[.int .i64 q.1,.int .i64 q.2]] w fun e w'=>e=.returned (.tuple #[.bool b,.nilIface])/\Below w.heap.size w w':=by
 have g:=yD p.1 p.2 q.1 q.2 w
 have hF:Bur.DL p.1 p.2 q.1 q.2=0:=(if_pos hp).trans hq
 rw[Bur.GrF.XV hp hq,h,hF,aB] at g
 exact g
theorem abT {T:Td}(V:aG T){K X:Nat->Prop}{k m m3 m4 H bp:Nat}{d:Dk}{S:Ses}{p3 p4:Option Addr}{v1:Value}{e1:List Dt}{A:List Int}{P:List Bur.Sp}{w wx:World}(hk:k<=60)(hm:m<=4*k+10)(gx:Gx k m d S (e1.map (·.x)) A P)(ts:Ts T K X w wx H d S bp v1 (.slice p3 A.length m3) (.slice p4 P.length m4) e1 A P) :
  Code.wp Tryz.prog (dW 13 (Tryz.f4.body.getD .skip)) (bodyPost Tryz.prog Tryz.f4 fun e w'=>e=.returned (.bool true)/\Below w.heap.size w w') ⟨#[c0,c1,c2,c3,.pointer (some ⟨H,0,none⟩),c5,c6,c7,c8,c9,c10,c11,.pointer (some ⟨bp,0,none⟩),c13,.slice p3 A.length m3,.slice p4 P.length m4,c16,c17,c18,c19,c20,c21,Bg,c23,c24,c25,JY,JZ,c28,c29,AV,c31,c32,Ai,c34,Aj,Ak,c37,Am,Ap,c40,zT,zU,Aq,Ar,Aw,c46,Az,AA,c49,zV,c51,Ah,c53,Bh,Bj,Bl,Bo,Bq,c59,Bv,Bz,BA,BD,c64,BF,BG,BH,BI,BJ,c70,BK,c72,BL,BM,c75,c76,BN,BO,CS,c80,CU,CV,CW,CX,c85,CY,c87,JA,JB,JC,c91,JD,c93,JE,JF,JG,JH,JI,JJ,pK,pO,pR,pU,pV,c105,pX,c107,sS,c109,sU,sV,sZ,tq,tu,tC,c116,c117,tH,c119,tJ,tK,tN,tV,c124,tX,tY,c127,tZ,uf,c130,c131,ug,uh,uj,um,uo,uq,c138,c139,uy,c141,uz,c143,uD,c145,c146,uF,c148,uG,uH,uI,c152,uJ,c154,uK,c156,c157,uM,c159,c160,uN,c162,uO,c164,uP,uQ,c167,c168,uS,uT,c171,uU,c173,uV,c175,uX,uY,uZ,vg,vk,vw,c182,c183,vC,vF,vG,vH,vI,vJ,vK,vM,vN,c193,c194,vO,c196,vP,c198,vS,vT,c201,vU,c203,vV,vW,c206,vX,c208,vY,c210,vZ,c212,c213,wo,wu,wC,wE,c218,wF,wG,wH,c222,wI,wJ,wK,c226,c227,c228,c229,wL,wM,c232,c233,c234,wO,c236,wP,wQ,wR,wS,wU,wV,wW,jh,ji,jk,jl,jm,jo,jq,jr,jv,jw,jy,jA,jB,jC,jD,jE,jF,jG,jH,jI,jJ,jK,jL,jM,jO,jP,jQ,jR,jS,jT,jU,jV,jW,jX,jY,jZ,ku,kC,kD,kE,kF,kG,kH,kJ,kK,kL,kM,kQ,kR,kT,kU,kV,kW,kX,kY,kZ,lq,lu,lC,lF,lG,lI,lJ,lK,lN,lQ,lS,lT,lU,lV,lX,lY,lZ,l7,l9,mg,mD,mF,mG,mJ,mM,mO,mP,mQ,mV,mW,mX,mY,mZ,ng,ni,ny,nC,nG,nI,nJ,nK,nN,nO,nP,nR,nS,nT,nU,nV,nX,nY,nZ,og,oh,oq,oC,oD,oG,oH,oI,oJ,oK,oL,oM,oN,oO,oP,oQ,oU,oV,oW,oZ,pq,pF,pG,pI],[]⟩ wx:=by
 conv=>arg 2;whnf
 have hsm:=gx.small hk
 have ga:=gx.ga
 have hgp:Bur.OkP gp:=by show Bur.fault 0 26=0;decide
 go_upto_block 11 with fail
 go_cut [33,34,35,36,37,38,39,40] from 276 to 337 (fun _ _ _ _ _ _ _ _ wy=>Below wx.heap.size wx wy)
 case rest=>
  refine ‹∀(a:Act) (w:World),Code.wp _ _ _ a w->_› _ _ ?_
  exact aaG V hk hm gx (ts.kn V hcut)
 case first=>
 clear gx hk hm
 have r4:=ts.r4
 obtain⟨z0,z1⟩:=id ts.pz
 have zl:=World.block_lt_of_cell? _ _ z0
 clear ts
 go_wp2_with fail
 go_loopw [33] (fun i wr=>∃j:Nat,j<=P.length/\i=.int .i64 j/\Below wx.heap.size wx wr) (fun i _=>P.length - (intOf i).toNat)
 case atStart=>exact⟨0,by omega,rfl,ah _⟩
 case round=>
  obtain⟨j,hj,rfl,hbw⟩:=hrel
  by_cases hlt:j<P.length
  ·have hlt':(j:Int)<(P.length:Int):=by omega
   obtain⟨x,hx⟩:∃x,P[j]? = some x:=⟨P[j],List.getElem?_eq_getElem hlt⟩
   obtain⟨b,eb,hbl,y0,y1⟩:=r4.atP hx
   cases eb
   obtain⟨ox,ix,nx'⟩:=ga.pr x (List.mem_of_getElem? hx)
   have c0:=(hbw.cell (p:=⟨b,j*2,none⟩) hbl).trans y0
   have c1:=(hbw.cell (p:=⟨b,j*2+1,none⟩) hbl).trans y1
   have p1:=(hbw.cell (p:=⟨bp,0,none⟩) zl).trans z0
   have p2:=(hbw.cell (p:=⟨bp,1,none⟩) zl).trans z1
   have hb2:b<wr.heap.size:=Nat.lt_of_lt_of_le hbl hbw.size
   have p0:bp<wr.heap.size:=Nat.lt_of_lt_of_le zl hbw.size
   have KW:=fun W=>Xj ox hgp ix W
   have hS:Hid (∀j' (z:Bur.Sp),j'<j->P[j']? = some z->Bur.OkP z/\Bur.inP x z=false/\Bur.inP z x=false):=fun j' z h1 h2=>by
    have hpw:=List.pairwise_iff_getElem.1 ga.pn j' j (by omega) hlt h1
    rw[(List.getElem?_eq_some_iff.1 h2).2,(List.getElem?_eq_some_iff.1 hx).2] at hpw
    exact⟨(ga.pr z (List.mem_of_getElem? h2)).1,hpw.2,hpw.1⟩
   clear ix nx'
   have hj1:Hid (j+1<=P.length):=hlt
   go_wp2_with fail
   go_region_held3 (fun wy=>wy.cell? ⟨b,j*2,none⟩=some (.int .i64 x.1)/\wy.cell? ⟨b,j*2+1,none⟩=some (.int .i64 x.2)/\wy.cell? ⟨bp,0,none⟩=some (.int .i64 0)/\wy.cell? ⟨bp,1,none⟩=some (.int .i64 26)) (first|exact⟨c0,c1,p1,p2⟩|exact⟨d0,d1,d2,d3⟩)
    (first|(go_at_call 17;refine (KW _).mono ?_;rintro e w1 ⟨rfl,hb1⟩;have d0:=(hb1.cell (p:=⟨b,j*2,none⟩) hb2).trans c0;have d1:=(hb1.cell (p:=⟨b,j*2+1,none⟩) hb2).trans c1;have d2:=(hb1.cell (p:=⟨bp,0,none⟩) p0).trans p1;have d3:=(hb1.cell (p:=⟨bp,1,none⟩) p0).trans p2))
   have hbU:=ak hbw.drew hb1
   clear hb1 c0 c1 p1 p2 d0 d1 d2 d3 hbw KW p0 hb2
   obtain⟨U,hU⟩:∃U,U=w1:=⟨_,rfl⟩
   subst hU
   go_wp2_with fail
   go_loopw [36] (fun i wr=>∃n:Nat,n<=j/\i=.int .i64 n/\Below wx.heap.size wx wr) (fun i _=>j - (intOf i).toNat)
   case atStart=>exact⟨0,by omega,rfl,hbU⟩
   case round=>
    obtain⟨n,hn,rfl,hbv⟩:=hrel
    by_cases hnl:n<j
    ·have hnl':(n:Int)<(j:Int):=by omega
     have hnP:(n:Int)<(P.length:Int):=by omega
     obtain⟨z,hz⟩:∃z,P[n]? = some z:=⟨P[n]'(by omega),List.getElem?_eq_getElem _⟩
     obtain⟨b',eb,hbl',t0,t1⟩:=r4.atP hz
     cases eb
     obtain⟨oz,i1,i2⟩:=hS.out n z hnl hz
     have c0:=(hbv.cell (p:=⟨b,j*2,none⟩) hbl).trans y0
     have c1:=(hbv.cell (p:=⟨b,j*2+1,none⟩) hbl).trans y1
     have x0:=(hbv.cell (p:=⟨b,n*2,none⟩) hbl).trans t0
     have x1:=(hbv.cell (p:=⟨b,n*2+1,none⟩) hbl).trans t1
     have hb2:b<wr.heap.size:=Nat.lt_of_lt_of_le hbl hbv.size
     have KA:=fun W=>Xj ox oz i1 W
     have KB:=fun W=>Xj oz ox i2 W
     clear i1 i2 t0 t1 hz
     go_wp2_with fail
     go_region_held3 (fun wy=>wy.cell? ⟨b,j*2,none⟩=some (.int .i64 x.1)/\wy.cell? ⟨b,j*2+1,none⟩=some (.int .i64 x.2)/\wy.cell? ⟨b,n*2,none⟩=some (.int .i64 z.1)/\wy.cell? ⟨b,n*2+1,none⟩=some (.int .i64 z.2)) (first|exact⟨c0,c1,x0,x1⟩|exact⟨d0,d1,d2,d3⟩)
      (first|(go_at_call 17;refine (KA _).mono ?_;rintro e w3 ⟨rfl,hb3⟩;have d0:=(hb3.cell (p:=⟨b,j*2,none⟩) hb2).trans c0;have d1:=(hb3.cell (p:=⟨b,j*2+1,none⟩) hb2).trans c1;have d2:=(hb3.cell (p:=⟨b,n*2,none⟩) hb2).trans x0;have d3:=(hb3.cell (p:=⟨b,n*2+1,none⟩) hb2).trans x1))
     have hb4:=ak hbv.drew hb3
     have hb5:b<w3.heap.size:=Nat.lt_of_lt_of_le hb2 hb3.size
     clear c0 c1 x0 x1 hb3 hbv KA hb2
     obtain⟨Z,hZ⟩:∃Z,Z=w3:=⟨_,rfl⟩
     subst hZ
     go_wp2_with fail
     go_region_held3 (fun wy=>wy.cell? ⟨b,j*2,none⟩=some (.int .i64 x.1)/\wy.cell? ⟨b,j*2+1,none⟩=some (.int .i64 x.2)/\wy.cell? ⟨b,n*2,none⟩=some (.int .i64 z.1)/\wy.cell? ⟨b,n*2+1,none⟩=some (.int .i64 z.2)) (first|exact⟨d0,d1,d2,d3⟩|exact⟨f0,f1,f2,f3⟩)
      (first|(go_at_call 17;refine (KB _).mono ?_;rintro e w4 ⟨rfl,hb6⟩;have f0:=(hb6.cell (p:=⟨b,j*2,none⟩) hb5).trans d0;have f1:=(hb6.cell (p:=⟨b,j*2+1,none⟩) hb5).trans d1;have f2:=(hb6.cell (p:=⟨b,n*2,none⟩) hb5).trans d2;have f3:=(hb6.cell (p:=⟨b,n*2+1,none⟩) hb5).trans d3))
     have hb7:=ak hb4.drew hb6
     clear d0 d1 d2 d3 f0 f1 f2 f3 hb4 hb6 KB
     go_wp2_with fail
     exact⟨⟨n+1,by omega,by go_num,hb7⟩,by simp[intOf];omega⟩
    ·clear y0 y1 z0 z1
     go_wp2_with fail
     exact⟨⟨j+1,hj1.out,by go_num,hbv⟩,by simp[intOf];omega⟩
  ·clear z0 z1
   go_wp2_with fail
   go_meet
   case rel=>exact hbw
