/- -/
import Derived.Test.YtmghmpclmphccaaGreatDoorTAdCutMath
import Derived.Test.YtmghmpclmphccaaGreatDoorTPlR
import Derived.Test.YtmghmpclmphccaaGreatDoorRows
import Derived.ProofKit
import Derived.OpenShut
import Derived.Deep.SlicePairs
import Derived.ChangeMaps5
import Derived.Carry
import Derived.Test.YtmghmpclmphccaaGreatDoorTTsMath2
import Derived.Test.YtmghmpclmphccaaGreatDoorTLgOwn
import Derived.Deep.CutBlock
import Derived.BigQuiet
set_option maxHeartbeats 8000000
set_option maxRecDepth 100000
namespace Go.Proofs.YtmghmpclmphccaaGreatDoor.Pa
open Go.ChangeShapes Go.WideShapes Go.ChangeAt Go.RowKit Go.Deep Vs
structure Hs where
 what:Int
 who:ByteArray
 n:Int
 c:Cl
def hsL (x:Hs):List Value:=[.int .i64 x.what,.string x.who,.int .i64 x.n,.int .i64 x.c.what,.string x.c.nm,.int .i64 x.c.p.1,.int .i64 x.c.p.2,.int .i64 x.c.len,.int .i64 x.c.ad,.string x.c.ow]
structure ClOk (c:Cl):Prop where
 nm:c.nm.size<=maxLen
 ow:c.ow.size<=maxLen
 wh:I6 c.what
 p1:I6 c.p.1
 p2:I6 c.p.2
 ln:I6 c.len
 ad:I6 c.ad
structure HsOk (x:Hs):Prop where
 who:x.who.size<=maxLen
 n:I6 x.n
 c:ClOk x.c
def HsC (w:World) (b off:Nat) (l:List Hs):Prop:=∀ i x,l[i]? = some x -> ∀ j v,(hsL x)[j]? = some v->w.cell? ⟨b,off+(i*10+j),none⟩=some v
def HsAt (w:World) (p:Option Addr) (l:List Hs):Prop:=0<l.length -> ∃ b off,p=some ⟨b,off,none⟩/\b<w.heap.size/\HsC w b off l
theorem HsAt.step {w w':World} {p:Option Addr} {l:List Hs} (h:HsAt w p l) (hb:Below w.heap.size w w'):HsAt w' p l:=fun hl=>by
 obtain⟨b,off,rfl,h1,h2⟩:=h hl
 exact⟨b,off,rfl,Nat.lt_of_lt_of_le h1 hb.size,fun i x hx j v hv=>(hb.cell (p:=⟨b,off+(i*10+j),none⟩) h1).trans (h2 i x hx j v hv)⟩
theorem hs_cells:Tryz.prog.cellsOf 35=10:=by kernel_rfl
theorem call_cells:Tryz.prog.cellsOf 33=7:=by kernel_rfl
theorem pfx_cells:Tryz.prog.cellsOf 31=2:=by kernel_rfl
theorem hint_cells:Tryz.prog.cellsOf 3=1:=by kernel_rfl
theorem hstr_cells:Tryz.prog.cellsOf 9=1:=by kernel_rfl
theorem hlaid_out:laidOutB Tryz.prog=true:=by kernel_rfl
theorem i6_of {i:Int} (h:(Lit.int .i64 i).wf=true):I6 i:=by
 simpa [Lit.wf,I6,show IntKind.i64.min = -9223372036854775808 from rfl,show IntKind.i64.max=9223372036854775807 from rfl] using h
theorem open_pfx {H:Type} {enc:TypeId×Value->H} {W:World} {k:Nat} {v0 v1:Value} {y:DataW H×List MemPlace} (h:DataW.trod enc Tryz.prog W 0 (fun _=>true) true k 31 [v0,v1]=some y):∃ a b:Int,v0=.int .i64 a/\v1=.int .i64 b/\I6 a/\I6 b:=by
 obtain⟨xs,k,hk,hxy,_,hxl,hfl⟩:=DataW.trod_struct Tryz.underlying31 h
 match xs,hxl with
 | [y0,y1],_=>
  have g0:=hfl 0 _ rfl
  have g1:=hfl 1 _ rfl
  simp[hint_cells] at g0 g1
  obtain⟨k0,e0,_,z0⟩:=DataW.trod_int Tryz.underlying3 g0
  obtain⟨k1,e1,_,z1⟩:=DataW.trod_int Tryz.underlying3 g1
  simp only [List.cons.injEq,and_true] at e0 e1
  exact⟨k0,k1,e0,e1,i6_of z0,i6_of z1⟩
theorem open_callC {H:Type} {enc:TypeId×Value->H} {W:World} {k:Nat} {v0 v1 v2 v3 v4 v5 v6:Value} {y:DataW H×List MemPlace} (h:DataW.trod enc Tryz.prog W 0 (fun _=>true) true k 33 [v0,v1,v2,v3,v4,v5,v6]=some y) :
  ∃ c:Cl,ClOk c/\v0=.int .i64 c.what/\v1=.string c.nm/\v2=.int .i64 c.p.1/\v3=.int .i64 c.p.2/\v4=.int .i64 c.len/\v5=.int .i64 c.ad/\v6=.string c.ow:=by
 obtain⟨xs,k,hk,hxy,_,hxl,hfl⟩:=DataW.trod_struct Tryz.underlying33 h
 match xs,hxl with
 | [y0,y1,y2,y3,y4,y5],_=>
  have g0:=hfl 0 _ rfl
  have g1:=hfl 1 _ rfl
  have g2:=hfl 2 _ rfl
  have g3:=hfl 3 _ rfl
  have g4:=hfl 4 _ rfl
  have g5:=hfl 5 _ rfl
  simp[hint_cells,hstr_cells,pfx_cells] at g0 g1 g2 g3 g4 g5
  obtain⟨k0,e0,_,z0⟩:=DataW.trod_int Tryz.underlying3 g0
  obtain⟨k1,e1,_,z1⟩:=DataW.trod_string Tryz.underlying9 g1
  obtain⟨a,b,e2,e3,z2,z3⟩:=open_pfx g2
  obtain⟨k4,e4,_,z4⟩:=DataW.trod_int Tryz.underlying3 g3
  obtain⟨k5,e5,_,z5⟩:=DataW.trod_int Tryz.underlying3 g4
  obtain⟨k6,e6,_,z6⟩:=DataW.trod_string Tryz.underlying9 g5
  simp only [List.cons.injEq,and_true] at e0 e1 e4 e5 e6
  exact⟨⟨k0,k1,(a,b),k4,k5,k6⟩,⟨z1,z6,i6_of z0,z2,z3,i6_of z4,i6_of z5⟩,e0,e1,e2,e3,e4,e5,e6⟩
theorem open_hs {H:Type} {enc:TypeId×Value->H} {W:World} {base:Nat} {v:Value} {d:DataW H} {ps:List MemPlace} (hval:Value.okWide Tryz.prog W .any base 22 v) (h:DataW.Trod enc Tryz.prog W 0 (fun _=>true) true 22 v d ps) :
  ∃ (p:Option Addr) (cap:Nat) (l:List Hs),v=.slice p l.length cap/\l.length<=maxLen/\HsAt W p l /\ ∀ x∈l,HsOk x:=by
 obtain⟨a0,len,cap,rfl⟩:=okWide_slice Tryz.underlying22 hval
 obtain⟨fuel,hf⟩:=h
 rcases open_slice Tryz.underlying22 hf with ⟨h0,_⟩|⟨a,len',cap',m,n,D,Pl,hcs,_,hl,hm,hmm,hxd,hx⟩
 ·simp[Value.cells] at h0
  obtain⟨rfl,rfl,rfl⟩:=h0
  exact⟨none,0,[],rfl,by simp,fun h=>by simp at h,fun x h=>by simp at h⟩
 ·simp[Value.cells] at hcs
  obtain⟨rfl,rfl,rfl⟩:=hcs
  simp only [if_true] at hmm
  subst hmm
  have each:∀ i,i<len -> ∃ x:Hs,HsOk x /\ ∀ j v,(hsL x)[j]? = some v->W.cell? (a.add (i*10+j))=some v:=by
   intro i hi
   obtain⟨cs',h1,h2⟩:=hx i (by omega)
   rw[hs_cells] at h1
   obtain⟨_,hlen,hcell⟩:=World.cells?_some h1
   obtain⟨xs,k,hk,hxy,_,hxl,hfl⟩:=DataW.trod_struct Tryz.underlying35 h2
   match xs,hxl,cs',hlen with
   | [y0,y1,y2,y3],_,[v0,v1,v2,v3,v4,v5,v6,v7,v8,v9],_=>
    have g0:=hfl 0 _ rfl
    have g1:=hfl 1 _ rfl
    have g2:=hfl 2 _ rfl
    have g3:=hfl 3 _ rfl
    simp[hint_cells,hstr_cells,call_cells] at g0 g1 g2 g3
    obtain⟨k0,e0,_,_⟩:=DataW.trod_int Tryz.underlying3 g0
    obtain⟨k1,e1,_,z1⟩:=DataW.trod_string Tryz.underlying9 g1
    obtain⟨k2,e2,_,z2⟩:=DataW.trod_int Tryz.underlying3 g2
    obtain⟨c,hc,q0,q1,q2,q3,q4,q5,q6⟩:=open_callC g3
    simp only [List.cons.injEq,and_true] at e0 e1 e2
    subst e0 e1 e2 q0 q1 q2 q3 q4 q5 q6
    refine⟨⟨k0,k1,k2,c⟩,⟨z1,i6_of z2,hc⟩,fun j v hv=>?_⟩
    have hj:j<10:=(List.getElem?_eq_some_iff.1 hv).1
    have r:=hcell j (by simpa using hj)
    rw[add_add] at r
    rw[r]
    exact hv
  have:Inhabited Hs:=⟨⟨0,ByteArray.empty,0,⟨0,ByteArray.empty,(0,0),0,0,ByteArray.empty⟩⟩⟩
  obtain⟨f,hfx⟩:=choose_lt each
  refine⟨some a,m,(List.range len).map f,by simp,by simp;omega,fun hp=>?_,fun x hxm=>?_⟩
  case refine_2=>
   obtain⟨i,hi,rfl⟩:=List.mem_map.1 hxm
   exact (hfx i (List.mem_range.1 hi)).1
  simp only [List.length_map,List.length_range] at hp
  obtain⟨b,off,spot⟩:=a
  have c0:=(hfx 0 hp).2 0 _ rfl
  have hspot:spot=none:=by simpa [Addr.add] using World.cell?_spot c0
  subst hspot
  refine⟨b,off,rfl,?_,fun i x hix j v hv=>?_⟩
  ·have:=World.block_lt_of_cell? _ _ c0
   simpa [Addr.add] using this
  ·have hi:i<len:=by
    have:=(List.getElem?_eq_some_iff.1 hix).1
    simpa using this
   have e:x=f i:=by
    rw[List.getElem?_map,List.getElem?_range hi] at hix
    exact (Option.some.inj hix).symm
   subst e
   have:=(hfx i hi).2 j v hv
   rw[add_plain] at this
   exact this
end Go.Proofs.YtmghmpclmphccaaGreatDoor.Pa
namespace Go.Proofs.YtmghmpclmphccaaGreatDoor.Pa
open Go.RowKit Go.Maps Vs
def Hb (w:World) (B:Nat) (x:Hs):Prop:=∀ (j:Nat) (v:Value),(hsL x)[j]? = some v->w.cell? ⟨B,j,none⟩=some v
theorem Hb.lt {w:World} {B:Nat} {x:Hs} (h:Hb w B x):B<w.heap.size:=World.block_lt_of_cell? _ _ (h 0 _ rfl)
theorem Hb.but {F:Nat->Prop} {w w':World} {B:Nat} {x:Hs} (h:Hb w B x) (hb:But F w w') (hF:¬ F B):Hb w' B x:=fun j v hv=>(hb.cell (p:=⟨B,j,none⟩) (World.block_lt_of_cell? _ _ (h j v hv)) hF).trans (h j v hv)
theorem Hb.step {w w':World} {B:Nat} {x:Hs} (h:Hb w B x) (hb:Below w.heap.size w w'):Hb w' B x:=h.but (F:=fun _=>False) (.below hb) id
theorem Hb.new (w:World) (t:Nat) (x:Hs):Hb (w.alloc (.cells #[.int .i64 x.what,.string x.who,.int .i64 x.n,.int .i64 x.c.what,.string x.c.nm,.int .i64 x.c.p.1,.int .i64 x.c.p.2,.int .i64 x.c.len,.int .i64 x.c.ad,.string x.c.ow] t)) w.heap.size x:=by
 intro j v hv
 match j,hv with
 | 0,hv|1,hv|2,hv|3,hv|4,hv|5,hv|6,hv|7,hv|8,hv|9,hv=>simp[hsL] at hv;subst hv;simp
theorem encC_one (l:List Cl):∀ u∈l.flatMap encC,u.oneCell'=true:=by
 intro u hu
 obtain⟨x,_,hx⟩:=List.mem_flatMap.1 hu
 simp[encC] at hx
 rcases hx with rfl|rfl|rfl|rfl|rfl|rfl|rfl <;> rfl
theorem encC_one1 (x:Cl):∀ u∈encC x,u.oneCell'=true:=fun u hu=>encC_one [x] u (by simpa using hu)
theorem encB_one (l:List (An×Int)):∀ u∈l.map encB,u.oneCell'=true:=by
 intro u hu
 obtain⟨x,_,rfl⟩:=List.mem_map.1 hu
 rfl
theorem bo_one {b:Bool}:∀ u∈([.bool b]:List Value),u.oneCell'=true:=fun u hu=>by rw[List.mem_singleton.1 hu];rfl
theorem fz_one {X:Nat->Prop} {w:World} {e size n:Nat} {v:Value} {cs:List Value} (h:Fz X w e size v n cs):v.oneCell'=true:=by
 obtain⟨p,c,rfl,_⟩:=h.form
 rfl
theorem encA_one {X:Nat->Prop} {w:World} {e:Dt} (h:DtOk X w e):∀ u∈(e.x.td.zip e.us).flatMap encA,u.oneCell'=true:=by
 intro u hu
 obtain⟨⟨t,v⟩,hx,hm⟩:=List.mem_flatMap.1 hu
 obtain⟨i,hi⟩:=List.mem_iff_getElem?.1 hx
 rw[List.getElem?_zip_eq_some] at hi
 have:=fz_one (h.u i t v hi.1 hi.2)
 simp[encA] at hm
 rcases hm with rfl|rfl|rfl|rfl|rfl
 ·rfl
 ·rfl
 ·rfl
 ·rfl
 ·exact this
theorem encA_one1 (t:An×Int) (p:Option Addr) (n c:Nat):∀ u∈encA (t,.slice p n c),u.oneCell'=true:=by
 intro u hu
 simp[encA] at hu
 rcases hu with rfl|rfl|rfl|rfl|rfl <;> rfl
theorem five_new (V:World) (N:Nat) (a b c d e:Value) (t:TypeId) (hN:N=V.heap.size):∀ j u,[a,b,c,d,e][j]? = some u->(V.alloc (.cells #[a,b,c,d,e] t)).cell? ⟨N,j,none⟩=some u:=by
 subst hN
 intro j u hj
 match j,hj with
 | 0,hj|1,hj|2,hj|3,hj|4,hj=>simp at hj;subst hj;simp
theorem seven_new (V:World) (N:Nat) (a b c d e f g:Value) (t:TypeId) (hN:N=V.heap.size):∀ j u,[a,b,c,d,e,f,g][j]? = some u->(V.alloc (.cells #[a,b,c,d,e,f,g] t)).cell? ⟨N,j,none⟩=some u:=by
 subst hN
 intro j u hj
 match j,hj with
 | 0,hj|1,hj|2,hj|3,hj|4,hj|5,hj|6,hj=>simp at hj;subst hj;simp
def dt0 (who:ByteArray):Dt:=⟨⟨who,0,[],[],[]⟩,.slice none 0 0,.slice none 0 0,.slice none 0 0,[]⟩
theorem dt0_ok (X:Nat->Prop) (w:World) (who:ByteArray):DtOk X w (dt0 who):=
 ⟨Fz.nil _ _ _ _,Fz.nil _ _ _ _,Fz.nil _ _ _ _,fun i t u h=>by simp[dt0] at h,Nat.zero_le _,rfl,rfl⟩
theorem dt0_one (who:ByteArray):∀ u∈encT (dt0 who),u.oneCell'=true:=by
 intro u hu
 simp[encT,dt0] at hu
 rcases hu with rfl|rfl|rfl <;> rfl
theorem map_er (l:List Dt) (j:Nat):(l.eraseIdx j).map (·.x)=(l.map (·.x)).eraseIdx j:=by rw[List.eraseIdx_eq_take_drop_succ,List.eraseIdx_eq_take_drop_succ,List.map_append,List.map_take,List.map_drop]
theorem fl_cut (l:List Dt) (j:Nat):l.flatMap encT=(l.take j).flatMap encT++(l.drop j).flatMap encT:=by rw[<- List.flatMap_append,List.take_append_drop]
theorem fl_take {l:List Dt} {j i:Nat} {u:Value} (h:((l.take j).flatMap encT)[i]? = some u):(l.flatMap encT)[i]? = some u:=by
 rw[fl_cut l j,List.getElem?_append_left (List.getElem?_eq_some_iff.1 h).1];exact h
theorem fl_drop {l:List Dt} {j i:Nat} {u:Value} (hj:j<=l.length) (h:((l.drop j).flatMap encT)[i]? = some u):(l.flatMap encT)[j*5+i]? = some u:=by
 rw[fl_cut l j,List.getElem?_append_right (by rw[encT_len,List.length_take];omega),encT_len,List.length_take,Nat.min_eq_left hj,Nat.add_sub_cancel_left];exact h
theorem fl_one {X:Nat->Prop} {w:World} {l:List Dt} (h:∀ e∈l,DtOk X w e):∀ u∈l.flatMap encT,u.oneCell'=true:=by
 intro u hu
 obtain⟨e,he,hx⟩:=List.mem_flatMap.1 hu
 have q:=h e he
 have qa:=fz_one q.a
 have qb:=fz_one q.b
 have qc:=fz_one q.c
 simp[encT] at hx
 rcases hx with rfl|rfl|rfl|rfl|rfl
 ·rfl
 ·rfl
 ·exact qa
 ·exact qb
 ·exact qc
def Fnd (es:List Dt) (who:ByteArray) (n:Nat) (v:Int):Prop:=(v = -1 /\ ∀ (i:Nat) (e:Dt),i<n->es[i]? = some e->e.x.who≠who) \/ ∃ (i:Nat) (e:Dt),i<n/\es[i]? = some e/\e.x.who=who/\v=i
theorem Fnd.hit {es:List Dt} {who:ByteArray} {n:Nat} {e:Dt} (he:es[n]? = some e) (h:e.x.who=who):Fnd es who (n+1) n:=.inr ⟨n,e,by omega,he,h,rfl⟩
theorem Fnd.miss {es:List Dt} {who:ByteArray} {n:Nat} {v:Int} {e:Dt} (f:Fnd es who n v) (he:es[n]? = some e) (h:e.x.who≠who):Fnd es who (n+1) v:=by
 rcases f with ⟨h1,h2⟩|⟨i,e',h1,h2,h3,h4⟩
 ·refine .inl ⟨h1,fun i e' hi he'=>?_⟩
  by_cases c:i=n
  ·subst c
   rw[he] at he'
   cases he'
   exact h
  ·exact h2 i e' (by omega) he'
 ·exact .inr ⟨i,e',by omega,h2,h3,h4⟩
end Go.Proofs.YtmghmpclmphccaaGreatDoor.Pa
namespace Go.Proofs.YtmghmpclmphccaaGreatDoor.Pa
open Go.RowKit Go.Maps Vs
theorem Fz.at {X:Nat->Prop} {w:World} {e size n:Nat} {v:Value} {cs:List Value} (h:Fz X w e size v n cs) (hn:0<n):∃ g c,v=.slice (some ⟨g,0,none⟩) n c/\n<=c/\g<w.heap.size/\X g /\ ∀ j,j<cs.length->w.cell? ⟨g,j,none⟩=cs[j]? := by
 rcases h.1.2 with ⟨_,h0⟩|⟨g,c,cur,h0,_,hg,h3,_⟩
 ·omega
 ·subst h0
  exact⟨g,c,rfl,h3,(Array.getElem?_eq_some_iff.1 hg).1,h.2 g rfl,fun j hj=>h.1.cellAt j (by have:=h.1.1;omega)⟩
theorem encC_at:∀ (l:List Cl) (i:Nat) (x:Cl),l[i]? = some x -> ∀ j v,(encC x)[j]? = some v->(l.flatMap encC)[i*7+j]? = some v
 | y :: r,0,x,h,j,v,hv=>by
  cases (Option.some.inj h)
  have hj:j<7:=(List.getElem?_eq_some_iff.1 hv).1
  rw[List.flatMap_cons,Nat.zero_mul,Nat.zero_add,List.getElem?_append_left (by exact hj)];exact hv
 | y :: r,i+1,x,h,j,v,hv=>by
  have:=encC_at r i x (by simpa using h) j v hv
  rw[List.flatMap_cons,List.getElem?_append_right (by show 7<=_;omega),show (i+1)*7+j - (encC y).length=i*7+j from by show (i+1)*7+j - 7=_;omega]
  exact this
theorem encA_at:∀ (l:List ((An×Int)×Value)) (i:Nat) (x:(An×Int)×Value),l[i]? = some x -> ∀ j v,(encA x)[j]? = some v->(l.flatMap encA)[i*5+j]? = some v
 | y :: r,0,x,h,j,v,hv=>by
  cases (Option.some.inj h)
  have hj:j<5:=(List.getElem?_eq_some_iff.1 hv).1
  rw[List.flatMap_cons,Nat.zero_mul,Nat.zero_add,List.getElem?_append_left (by exact hj)];exact hv
 | y :: r,i+1,x,h,j,v,hv=>by
  have:=encA_at r i x (by simpa using h) j v hv
  rw[List.flatMap_cons,List.getElem?_append_right (by show 5<=_;omega),show (i+1)*5+j - (encA y).length=i*5+j from by show (i+1)*5+j - 5=_;omega]
  exact this
theorem tsChanged {X:Nat->Prop} {w:World} {e:Dt} (h:DtOk X w e):Calls Tryz.prog 12 #[.agg #[.string e.x.who,.int .i64 e.x.num,e.a,e.b,e.c]] w fun r w'=>r=.returned (.bool (chL e.x.cs e.x.td))/\Below w.heap.size w w':=by
 obtain⟨x,a,b,c,us⟩:=e
 have hA:Fz X w 33 7 a x.cs.length (x.cs.flatMap encC):=h.a
 have hC:Fz X w 4 1 c x.td.length (x.td.map encB):=h.c
 have hst:x.cs.length<=1000:=h.n
 have hl:x.td.length=x.cs.length:=h.l
 clear h
 obtain⟨pa,ca,rfl,ha1,ha2⟩:=hA.form
 obtain⟨pc,cc,rfl,hc1,hc2⟩:=hC.form
 simp only
 have hl1:x.td.length<=x.cs.length:=by omega
 have hl2:x.cs.length<=x.td.length:=by omega
 clear hl
 have hb0:=below_al (below_self w) (.cells #[.string x.who,.int .i64 x.num,.slice pa x.cs.length ca,b,.slice pc x.td.length cc] 40)
 go_enter Tryz.func12,Tryz.ntmps12
 go_wp2
 go_loopw [3,4] (fun i _ wr=>∃ k:Nat,k<=x.cs.length/\i=.int .i64 k/\Hid (chL x.cs x.td=chL (x.cs.drop k) (x.td.drop k))/\wr=w.alloc (.cells #[.string x.who,.int .i64 x.num,.slice pa x.cs.length ca,b,.slice pc x.td.length cc] 40)) (fun i _ _=>x.cs.length - (intOf i).toNat)
 case atStart=>exact⟨0,by omega,rfl,rfl,rfl⟩
 case round=>
  obtain⟨k,hk,rfl,R,rfl⟩:=hrel
  by_cases hlt:k<x.cs.length
  ·have hlt':(k:Int)<(x.cs.length:Int):=by omega
   have hlt2:k<x.td.length:=by omega
   have hlt2':(k:Int)<(x.td.length:Int):=by omega
   obtain⟨ga,ca',ea,ha3,ha4,-,ha5⟩:=hA.at (by omega)
   obtain⟨gc,cc',ec,hc3,hc4,-,hc5⟩:=hC.at (by omega)
   cases ea
   cases ec
   obtain⟨y,hy⟩:∃ y,x.cs[k]? = some y:=⟨x.cs[k],List.getElem?_eq_getElem hlt⟩
   obtain⟨t,ht⟩:∃ t,x.td[k]? = some t:=⟨x.td[k],List.getElem?_eq_getElem hlt2⟩
   have hl7:(x.cs.flatMap encC).length=x.cs.length*7:=flat_len (k:=7) (fun _=>rfl) x.cs
   have c0:(w.alloc (.cells #[.string x.who,.int .i64 x.num,.slice (some ⟨ga,0,none⟩) x.cs.length ca,b,.slice (some ⟨gc,0,none⟩) x.td.length cc] 40)).cell? ⟨ga,k*7,none⟩=some (.int .i64 y.what):=(hb0.cell (p:=⟨ga,k*7,none⟩) ha4).trans ((ha5 _ (by omega)).trans (encC_at x.cs k y hy 0 _ rfl))
   have c1:(w.alloc (.cells #[.string x.who,.int .i64 x.num,.slice (some ⟨ga,0,none⟩) x.cs.length ca,b,.slice (some ⟨gc,0,none⟩) x.td.length cc] 40)).cell? ⟨gc,k,none⟩=some (.bool (decide (t.2≠0))):=(hb0.cell (p:=⟨gc,k,none⟩) hc4).trans ((hc5 _ (by simp;omega)).trans (by rw[List.getElem?_map,ht];rfl))
   have hstep:chL (x.cs.drop k) (x.td.drop k)=((chC y&&decide (t.2=0)) || chL (x.cs.drop (k+1)) (x.td.drop (k+1))):=by
    obtain⟨h1,e1⟩:=List.getElem?_eq_some_iff.1 hy
    obtain⟨h2,e2⟩:=List.getElem?_eq_some_iff.1 ht
    rw[List.drop_eq_getElem_cons h1,List.drop_eq_getElem_cons h2,e1,e2]
    simp[chL]
   clear ha5 hc5 hy ht
   by_cases te:t.2=0
   ·rw[show decide (t.2≠0)=false by simp[te]] at c1
    by_cases w8:y.what=8
    ·have g8:(y.what != 8)=false:=by simp[w8]
     have R2:Hid (chL x.cs x.td=chL (x.cs.drop (k+1)) (x.td.drop (k+1))):=by show _=_;rw[R.out,hstep];simp[chC,w8]
     clear R hstep te w8
     go_wp2
     exact⟨⟨k+1,by omega,by go_num,R2,trivial⟩,by simp[intOf];omega⟩
    ·have g8:(y.what != 8)=true:=by simp[w8]
     by_cases w9:y.what=9
     ·have g9:(y.what != 9)=false:=by simp[w9]
      have R2:Hid (chL x.cs x.td=chL (x.cs.drop (k+1)) (x.td.drop (k+1))):=by show _=_;rw[R.out,hstep];simp[chC,w9]
      clear R hstep te w8 w9
      go_wp2
      exact⟨⟨k+1,by omega,by go_num,R2,trivial⟩,by simp[intOf];omega⟩
     ·have g9:(y.what != 9)=true:=by simp[w9]
      have R2:Hid (chL x.cs x.td=true):=by show _=_;rw[R.out,hstep];simp[chC,w8,w9,te]
      clear R hstep te w8 w9
      go_wp2
      go_ret
      exact⟨by rw[R2.out];rfl,hb0⟩
   ·rw[show decide (t.2≠0)=true by simp[te]] at c1
    have R2:Hid (chL x.cs x.td=chL (x.cs.drop (k+1)) (x.td.drop (k+1))):=by show _=_;rw[R.out,hstep];simp[te]
    clear R hstep te
    go_wp2
    exact⟨⟨k+1,by omega,by go_num,R2,trivial⟩,by simp[intOf];omega⟩
  ·have R2:Hid (chL x.cs x.td=false):=by
    show _=_
    rw[R.out,List.drop_eq_nil_of_le (by omega)];simp[chL]
   clear R
   go_wp2
   go_ret
   exact⟨by rw[R2.out];rfl,hb0⟩
end Go.Proofs.YtmghmpclmphccaaGreatDoor.Pa
namespace Go.Proofs.YtmghmpclmphccaaGreatDoor.Pa
open Go.RowKit Go.Maps Vs
structure T2 (T:Td) (K X:Nat->Prop) (w wr:World) (Ha:Nat) (a:Dk) (Sa:Ses) (H:Nat) (d:Dk) (S:Ses) (v2:Value) (e2:List Dt):Prop where
 h:H1 T w K wr Ha a Sa
 xk:∀ j,X j->K j
 dd:∃ G:Nat->Prop,Hl T wr G H d S /\ ∀ j,G j->K j
 r2:OwnT w.heap.size K X wr v2 e2
section
variable {T:Td} {K X:Nat->Prop} {w wr w':World} {Ha H:Nat} {a a' d:Dk} {Sa Sa' S:Ses} {v2:Value} {e2:List Dt}
theorem T2.kn (V:DFace T) (h:T2 T K X w wr Ha a Sa H d S v2 e2) (hb:Below wr.heap.size wr w'):T2 T (Kn K wr w') X w w' Ha a Sa H d S v2 e2:=by
 obtain⟨G,h1,h2⟩:=h.dd
 exact⟨h.h.step V hb,fun j hj=>.inl (h.xk j hj),⟨G,h1.step V hb,fun j hj=>.inl (h2 j hj)⟩,h.r2.but (E:=fun _=>False) (.below hb) (fun _ _=>id) (fun _ _=>id) (fun _ _ g=>g) (fun _ _ g=>g) (fun _ _ g=>.inl g)⟩
theorem T2.op (V:DFace T) (h:T2 T K X w wr Ha a Sa H d S v2 e2) (o:H1 T w K w' Ha a' Sa') (hb:But (fun j=>¬ K j) wr w'):T2 T K X w w' Ha a' Sa' H d S v2 e2:=by
 obtain⟨G,h1,h2⟩:=h.dd
 exact⟨o,h.xk,⟨G,h1.but V hb (fun j hj g=>g (h2 j hj)) o.en,h2⟩,h.r2.but hb (fun j hj g=>g (h.r2.blk j hj).1) (fun j hj g=>g (h.xk j hj)) (fun _ _ g=>g) (fun _ _ g=>g) (fun _ _ g=>g)⟩
theorem T2.open (V:DFace T) (who:ByteArray) (h:T2 T K X w wr Ha a Sa H d S v2 e2) (ok:OkD a) (sm:Sm a) (hw:who.size<=maxLen) (hS:Sa.length<=1000) :
  Calls Tryz.prog 8 #[.pointer (some ⟨Ha,0,none⟩),.string who] wr fun e w'=>e=.returned (ev (hoF a Sa who))/\T2 T K X w w' Ha (hoD a Sa who) (hoS a Sa who) H d S v2 e2/\But (fun j=>¬ K j) wr w':=by
 obtain⟨G,h1,h2⟩:=h.h.ex
 refine (hallOpen V h1 ok sm who hw hS).mono ?_
 rintro e w' ⟨rfl,hp⟩
 obtain⟨q1,q2⟩:=h.h.op h2 hp
 exact⟨rfl,h.op V q1 q2,q2⟩
theorem T2.close (V:DFace T) (who:ByteArray) (h:T2 T K X w wr Ha a Sa H d S v2 e2) (ok:OkD a) (sm:Sm a) (sz:Spz a) (hw:who.size<=maxLen) :
  Calls Tryz.prog 10 #[.pointer (some ⟨Ha,0,none⟩),.string who] wr fun e w'=>e=.returned (.tuple #[.int .i64 (hcN a Sa who),ev (hcF a Sa who)])/\T2 T K X w w' Ha (hcD a Sa who) (sDel Sa who) H d S v2 e2/\But (fun j=>¬ K j) wr w':=by
 obtain⟨G,h1,h2⟩:=h.h.ex
 refine (hallClose V h1 ok sm sz who hw).mono ?_
 rintro e w' ⟨rfl,hp⟩
 obtain⟨q1,q2⟩:=h.h.op h2 hp
 exact⟨rfl,h.op V q1 q2,q2⟩
theorem T2.ask (V:DFace T) (who:ByteArray) (c:Cl) (h:T2 T K X w wr Ha a Sa H d S v2 e2) (ok:OkD a) (sm:Sm a) (hw:who.size<=maxLen) :
  Calls Tryz.prog 11 #[.pointer (some ⟨Ha,0,none⟩),.string who,clV c] wr fun e w'=>∃ pu cu,e=.returned (.tuple #[anV (haA a Sa who c) (.slice pu (haA a Sa who c).l.length cu),ev (haF a Sa who c)])/\w'.ownsRow wr.heap.size 31 2 (.slice pu (haA a Sa who c).l.length cu) (haA a Sa who c).l.length (pfV (haA a Sa who c).l)/\T2 T K X w w' Ha (haD a Sa who c) Sa H d S v2 e2/\But (fun j=>¬ K j) wr w':=by
 obtain⟨G,h1,h2⟩:=h.h.ex
 refine (hallAsk V h1 ok sm who hw c).mono ?_
 rintro e w' ⟨u,rfl,row,G',g1,g2,g3,g4⟩
 obtain⟨q1,q2⟩:=h.h.op h2 ⟨G',g1,g2,g3⟩
 obtain⟨pu,cu,rfl⟩:=own_form row
 exact⟨pu,cu,rfl,row,h.op V q1 q2,q2⟩
theorem T2.all (V:DFace T) (h:T2 T K X w wr Ha a Sa H d S v2 e2) (ok:OkD a) (sm:Sm a) :
  Calls Tryz.prog 15 #[.pointer (some ⟨Ha,0,none⟩)] wr fun e w'=>∃ (q:Option Addr) (cq:Nat),e=.returned (.slice q (allP a).length cq)/\(allP a).length<=cq/\PrIn (fun j=>wr.heap.size<=j) w' q (allP a)/\Below wr.heap.size wr w':=by
 obtain⟨G,h1,h2⟩:=h.h.ex
 exact hallAll V h1 ok sm
theorem T2.all2 (V:DFace T) (h:T2 T K X w wr Ha a Sa H d S v2 e2) (ok:OkD d) (sm:Sm d) :
  Calls Tryz.prog 15 #[.pointer (some ⟨H,0,none⟩)] wr fun e w'=>∃ (q:Option Addr) (cq:Nat),e=.returned (.slice q (allP d).length cq)/\(allP d).length<=cq/\PrIn (fun j=>wr.heap.size<=j) w' q (allP d)/\Below wr.heap.size wr w':=by
 obtain⟨G,h1,h2⟩:=h.dd
 exact hallAll V h1 ok sm
end
end Go.Proofs.YtmghmpclmphccaaGreatDoor.Pa
namespace Go.Proofs.YtmghmpclmphccaaGreatDoor.Pa
open Go.RowKit Go.Maps Vs
def cFst:Code->Code
 | .seq a _=>a
 | c=>c
def cSnd:Code->Code
 | .seq _ b=>b
 | c=>c
def cIn:Code->Code
 | .block _ b=>b
 | .loop b=>b
 | c=>c
def tsIn (c:Code):Code:=cIn (cFst (cSnd (cIn (cIn (cSnd (cFst (dropSeq 6 c)))))))
theorem kq_askX {d:Dk} (h:OkD d) (S:Ses) (who:ByteArray) (c:Cl):Kq d (haD d S who c):=by
 unfold haD
 split
 ·exact .of rfl
 ·exact .of (kq_run h c _)
theorem evB (f:Int):(ev f=.nilIface/\f=0) \/ (ev f=errN f/\f≠0):=by
 by_cases h:f=0
 ·exact .inl ⟨by rw[h];rfl,h⟩
 ·exact .inr ⟨ev_ne h,h⟩
end Go.Proofs.YtmghmpclmphccaaGreatDoor.Pa
namespace Go.Proofs.YtmghmpclmphccaaGreatDoor.Pa
open Go.RowKit Go.Maps Vs
theorem ts_open {T:Td} (V:DFace T) {K2 X:Nat->Prop} {k m1 m2 H bs:Nat} {d:Dk} {S:Ses} {p1 p2:Option Addr} {e1 e2:List Dt} {x:Hs} {kv:Int} {w w2:World} {Q:Exit->Act->World->Prop} {c0 c1 c2 c3 c5 c12 c13 c14 c15 c16 c17 c18 c19 c20 c21 c22 c23 c24 c25 c26 c27 c28 c29 c30 c31 c32 c33 c34 c35 c36 c37 c38 c39 c40 c41 c42 c43 c44 c45 c46 c47 c48 c49 c50 c51 c52 c53 c54 c55 c56 c57 c58 c59 c60 c61 c62 c63 c64 c65 c66 c67 c68 c69 c70 c71 c72 c73 c74 c75 c76 c77 c78 c79 c80 c81 c82 c83 c84 c85 c86 c87 c88 c89 c90 c91 c92 c93 c94 c95 c96 c97 c98 c99 c100 c101 c102 c103 c104 c105 c106 c107 c108 c109 c110 c111 c112 c113 c114 c115 c116 c117 c118 c119 c120 c121 c122 c123 c124 c125 c126 c127 c128 c129 c130 c131 c132 c133 c134 c135 c136 c137 c138 c139 c140 c141 c142 c143 c144 c145 c146 c147 c148 c149 c150 c151 c152 c153 c154 c155 c156 c157 c158 c159 c160 c161 c162 c163 c164 c165 c166 c167 c168 c169 c170 c171 c172 c173 c174 c175 c176 c177 c178 c179 c180 c181 c182 c183 c184 c185 c186 c187 c188 c189 c190 c191 c192 c193 c194 c195 c196 c197 c198 c199 c200 c201 c202 c203 c204 c205 c206 c207 c208 c209 c210 c211 c212 c213 c214 c215 c216 c217 c218 c219 c220 c221 c222 c223 c224 c225 c226 c227 c228 c229 c230 c231 c232 c233 c234 c235 c236 c237 c238 c239 c240 c241 c242 c243 c244 c245 c246 c247 c248 c249 c250 c251 c252 c253 c254 c255 c256 c257 c258 c259 c260 c261 c262 c263 c264 c265 c266 c267 c268 c269 c270 c271 c272 c273 c274 c275 c276 c277 c278 c279 c280 c281 c282 c283 c284 c285 c286 c287 c288 c289 c290 c291 c292 c293 c294 c295 c296 c297 c298:Value}
  (en:En w) (hlt60:k<60) (hel:e1.length<=8) (hxo:HsOk x) (sx:Sx k d S (e1.map (·.x)) (e2.map (·.x))) (ts2:Ts T K2 X w w2 H d S (.slice p1 e1.length m1) (.slice p2 e2.length m2) e1 e2) (sb2:Hb w2 bs x) (hKs2:K2 bs) (w0:x.what=0)
  (hQ:∀ {ex:Exit} {d':Dk} {S':Ses} {v1' v2' v8':Value} {e1' e2':List Dt} {K' X':Nat->Prop} {w':World} {d13 d14 d15 d16 d17 d18 d19 d20 d21 d22 d23 d76 d77 d78 d79 d80 d81 d82 d83 d84 d85 d86 d87 d88 d89 d90 d91 d92 d93 d94 d95 d96 d97 d98 d99 d100 d101 d102 d103 d104 d105 d106 d107 d108 d109 d110 d111 d112 d113 d114 d115 d116 d117 d118 d119 d120 d121 d122 d123 d124 d125 d126 d127 d128 d129 d130 d131 d132 d133 d134 d135 d136 d137 d138 d139 d140 d141 d142 d143 d144 d145 d146 d147 d148 d149 d150 d151 d152 d153 d154 d155 d156 d157 d158 d159 d160 d161 d162 d163 d164 d165 d166 d167 d168 d169 d170 d171 d172 d173 d174 d175 d176 d177 d178 d179 d180 d181 d182 d183 d184 d185 d186 d187 d188 d189 d190 d191 d192 d193 d194 d195 d196 d197 d198 d199 d200 d201 d202 d203 d204:Value},(ex=.normal \/ ex=.exit 1)->v8'=.int .i64 (d'.lg.ls.length:Int)->Sx (k+1) d' S' (e1'.map (·.x)) (e2'.map (·.x))->Ts T K' X' w w' H d' S' v1' v2' e1' e2'->Q ex ⟨#[c0,c1,c2,c3,.pointer (some ⟨H,0,none⟩),c5,v1',v2',v8',.int .i64 (k:Int),.pointer (some ⟨bs,0,none⟩),.int .i64 kv,c12,d13,d14,d15,d16,d17,d18,d19,d20,d21,d22,d23,c24,c25,c26,c27,c28,c29,c30,c31,c32,c33,c34,c35,c36,c37,c38,c39,c40,c41,c42,c43,c44,c45,c46,c47,c48,c49,c50,c51,c52,c53,c54,c55,c56,c57,c58,c59,c60,c61,c62,c63,c64,c65,c66,c67,c68,c69,c70,c71,c72,c73,c74,c75,d76,d77,d78,d79,d80,d81,d82,d83,d84,d85,d86,d87,d88,d89,d90,d91,d92,d93,d94,d95,d96,d97,d98,d99,d100,d101,d102,d103,d104,d105,d106,d107,d108,d109,d110,d111,d112,d113,d114,d115,d116,d117,d118,d119,d120,d121,d122,d123,d124,d125,d126,d127,d128,d129,d130,d131,d132,d133,d134,d135,d136,d137,d138,d139,d140,d141,d142,d143,d144,d145,d146,d147,d148,d149,d150,d151,d152,d153,d154,d155,d156,d157,d158,d159,d160,d161,d162,d163,d164,d165,d166,d167,d168,d169,d170,d171,d172,d173,d174,d175,d176,d177,d178,d179,d180,d181,d182,d183,d184,d185,d186,d187,d188,d189,d190,d191,d192,d193,d194,d195,d196,d197,d198,d199,d200,d201,d202,d203,d204,c205,c206,c207,c208,c209,c210,c211,c212,c213,c214,c215,c216,c217,c218,c219,c220,c221,c222,c223,c224,c225,c226,c227,c228,c229,c230,c231,c232,c233,c234,c235,c236,c237,c238,c239,c240,c241,c242,c243,c244,c245,c246,c247,c248,c249,c250,c251,c252,c253,c254,c255,c256,c257,c258,c259,c260,c261,c262,c263,c264,c265,c266,c267,c268,c269,c270,c271,c272,c273,c274,c275,c276,c277,c278,c279,c280,c281,c282,c283,c284,c285,c286,c287,c288,c289,c290,c291,c292,c293,c294,c295,c296,c297,c298],[]⟩ w') :
  Code.wp Tryz.prog (dropSeq 3 (tsIn (Tryz.f3.body.getD .skip))) Q ⟨#[c0,c1,c2,c3,.pointer (some ⟨H,0,none⟩),c5,.slice p1 e1.length m1,.slice p2 e2.length m2,.int .i64 (d.lg.ls.length:Int),.int .i64 (k:Int),.pointer (some ⟨bs,0,none⟩),.int .i64 kv,c12,c13,c14,c15,c16,c17,c18,c19,c20,c21,c22,c23,c24,c25,c26,c27,c28,c29,c30,c31,c32,c33,c34,c35,c36,c37,c38,c39,c40,c41,c42,c43,c44,c45,c46,c47,c48,c49,c50,c51,c52,c53,c54,c55,c56,c57,c58,c59,c60,c61,c62,c63,c64,c65,c66,c67,c68,c69,c70,c71,c72,c73,c74,c75,c76,c77,c78,c79,c80,c81,c82,c83,c84,c85,c86,c87,c88,c89,c90,c91,c92,c93,c94,c95,c96,c97,c98,c99,c100,c101,c102,c103,c104,c105,c106,c107,c108,c109,c110,c111,c112,c113,c114,c115,c116,c117,c118,c119,c120,c121,c122,c123,c124,c125,c126,c127,c128,c129,c130,c131,c132,c133,c134,c135,c136,c137,c138,c139,c140,c141,c142,c143,c144,c145,c146,c147,c148,c149,c150,c151,c152,c153,c154,c155,c156,c157,c158,c159,c160,c161,c162,c163,c164,c165,c166,c167,c168,c169,c170,c171,c172,c173,c174,c175,c176,c177,c178,c179,c180,c181,c182,c183,c184,c185,c186,c187,c188,c189,c190,c191,c192,c193,c194,c195,c196,c197,c198,c199,c200,c201,c202,c203,c204,c205,c206,c207,c208,c209,c210,c211,c212,c213,c214,c215,c216,c217,c218,c219,c220,c221,c222,c223,c224,c225,c226,c227,c228,c229,c230,c231,c232,c233,c234,c235,c236,c237,c238,c239,c240,c241,c242,c243,c244,c245,c246,c247,c248,c249,c250,c251,c252,c253,c254,c255,c256,c257,c258,c259,c260,c261,c262,c263,c264,c265,c266,c267,c268,c269,c270,c271,c272,c273,c274,c275,c276,c277,c278,c279,c280,c281,c282,c283,c284,c285,c286,c287,c288,c289,c290,c291,c292,c293,c294,c295,c296,c297,c298],[]⟩ w2:=by
 conv=>arg 2;whnf
 have cz0:=sb2 0 _ rfl
 have cz1:=sb2 1 _ rfl
 have cz2:=sb2 2 _ rfl
 have cz3:=sb2 3 _ rfl
 have cz4:=sb2 4 _ rfl
 have cz5:=sb2 5 _ rfl
 have cz6:=sb2 6 _ rfl
 have cz7:=sb2 7 _ rfl
 have cz8:=sb2 8 _ rfl
 have cz9:=sb2 9 _ rfl
 have eq0:(x.what==0)=true:=by simp;omega
 clear w0
 have P1:=ts2.h.open V x.who sx.dp (by omega) hxo.who (by have:=sx.sl;rw[List.length_map] at this;omega)
 by_cases hf:hoF d S x.who=0
 ·have sx2:=sx.open hf
  have kq:=(kq_open d S x.who).ls
  rw[hf,ev_0] at P1
  clear hf
  go_wp2_with fail
  refine P1.mono ?_
  clear P1
  rintro e w3 ⟨rfl,h3,hb3⟩
  have ts3:=ts2.op h3 hb3
  have y1:=(sb2.but hb3 (fun g=>g hKs2)) 1 _ rfl
  have hb4:=below_al (below_self w3) (.cells #[.string x.who,.int .i64 0,.slice none 0 0,.slice none 0 0,.slice none 0 0] 40)
  have ts4:=ts3.kn V hb4
  have hw4:=ts4.h.bl.size
  clear ts2 ts3 h3 hb3 cz0 cz1 cz2 cz3 cz4 cz5 cz6 cz7 cz8 cz9
  go_wp2_with (at_builtin;refine wpList_append_oneAt 29 40 5 96 _ Tryz.underlying29 infoTk rfl (by decide) (by decide) rfl _ _ rfl w.heap.size _ e1.length (e1.flatMap encT) rfl ts4.r1.row hw4 w3.heap.size (encT (dt0 x.who)) rfl rfl (five_new _ _ _ _ _ _ _ _ rfl) (dt0_one _) (by omega) ?_;intro v5 w5 own5 hg5 hat5)
  have ts5:=ts4.push1 V en own5 hg5 hat5 (dt0_ok _ _ _)
  exact hQ (by first|exact .inl rfl|exact .inr rfl) (by first|rfl|(rw[kq])) (by rw[List.map_append];exact sx2) ts5
 ·have sx2:=sx.open_no hf
  have kq:=(kq_open d S x.who).ls
  rw[ev_ne hf] at P1
  clear hf
  go_wp2_with fail
  refine P1.mono ?_
  clear P1
  rintro e w3 ⟨rfl,h3,hb3⟩
  have ts3:=ts2.op h3 hb3
  clear ts2 h3 hb3
  go_wp2
  exact hQ (by first|exact .inl rfl|exact .inr rfl) (by first|rfl|(rw[kq])) (sx2) ts3
theorem ts_idle {T:Td} {K2 X:Nat->Prop} {k m1 m2 H bs:Nat} {d:Dk} {S:Ses} {p1 p2:Option Addr} {e1 e2:List Dt} {x:Hs} {kv:Int} {w w2:World} {Q:Exit->Act->World->Prop} {c0 c1 c2 c3 c5 c12 c13 c14 c15 c16 c17 c18 c19 c20 c21 c22 c23 c24 c25 c26 c27 c28 c29 c30 c31 c32 c33 c34 c35 c36 c37 c38 c39 c40 c41 c42 c43 c44 c45 c46 c47 c48 c49 c50 c51 c52 c53 c54 c55 c56 c57 c58 c59 c60 c61 c62 c63 c64 c65 c66 c67 c68 c69 c70 c71 c72 c73 c74 c75 c76 c77 c78 c79 c80 c81 c82 c83 c84 c85 c86 c87 c88 c89 c90 c91 c92 c93 c94 c95 c96 c97 c98 c99 c100 c101 c102 c103 c104 c105 c106 c107 c108 c109 c110 c111 c112 c113 c114 c115 c116 c117 c118 c119 c120 c121 c122 c123 c124 c125 c126 c127 c128 c129 c130 c131 c132 c133 c134 c135 c136 c137 c138 c139 c140 c141 c142 c143 c144 c145 c146 c147 c148 c149 c150 c151 c152 c153 c154 c155 c156 c157 c158 c159 c160 c161 c162 c163 c164 c165 c166 c167 c168 c169 c170 c171 c172 c173 c174 c175 c176 c177 c178 c179 c180 c181 c182 c183 c184 c185 c186 c187 c188 c189 c190 c191 c192 c193 c194 c195 c196 c197 c198 c199 c200 c201 c202 c203 c204 c205 c206 c207 c208 c209 c210 c211 c212 c213 c214 c215 c216 c217 c218 c219 c220 c221 c222 c223 c224 c225 c226 c227 c228 c229 c230 c231 c232 c233 c234 c235 c236 c237 c238 c239 c240 c241 c242 c243 c244 c245 c246 c247 c248 c249 c250 c251 c252 c253 c254 c255 c256 c257 c258 c259 c260 c261 c262 c263 c264 c265 c266 c267 c268 c269 c270 c271 c272 c273 c274 c275 c276 c277 c278 c279 c280 c281 c282 c283 c284 c285 c286 c287 c288 c289 c290 c291 c292 c293 c294 c295 c296 c297 c298:Value}
  (sx:Sx k d S (e1.map (·.x)) (e2.map (·.x))) (ts2:Ts T K2 X w w2 H d S (.slice p1 e1.length m1) (.slice p2 e2.length m2) e1 e2) (sb2:Hb w2 bs x) (w1:x.what=3 \/ x.what=4 \/ x.what=5)
  (hQ:∀ {ex:Exit} {d':Dk} {S':Ses} {v1' v2' v8':Value} {e1' e2':List Dt} {K' X':Nat->Prop} {w':World} {d13 d14 d15 d16 d17 d18 d19 d20 d21 d22 d23 d76 d77 d78 d79 d80 d81 d82 d83 d84 d85 d86 d87 d88 d89 d90 d91 d92 d93 d94 d95 d96 d97 d98 d99 d100 d101 d102 d103 d104 d105 d106 d107 d108 d109 d110 d111 d112 d113 d114 d115 d116 d117 d118 d119 d120 d121 d122 d123 d124 d125 d126 d127 d128 d129 d130 d131 d132 d133 d134 d135 d136 d137 d138 d139 d140 d141 d142 d143 d144 d145 d146 d147 d148 d149 d150 d151 d152 d153 d154 d155 d156 d157 d158 d159 d160 d161 d162 d163 d164 d165 d166 d167 d168 d169 d170 d171 d172 d173 d174 d175 d176 d177 d178 d179 d180 d181 d182 d183 d184 d185 d186 d187 d188 d189 d190 d191 d192 d193 d194 d195 d196 d197 d198 d199 d200 d201 d202 d203 d204:Value},(ex=.normal \/ ex=.exit 1)->v8'=.int .i64 (d'.lg.ls.length:Int)->Sx (k+1) d' S' (e1'.map (·.x)) (e2'.map (·.x))->Ts T K' X' w w' H d' S' v1' v2' e1' e2'->Q ex ⟨#[c0,c1,c2,c3,.pointer (some ⟨H,0,none⟩),c5,v1',v2',v8',.int .i64 (k:Int),.pointer (some ⟨bs,0,none⟩),.int .i64 kv,c12,d13,d14,d15,d16,d17,d18,d19,d20,d21,d22,d23,c24,c25,c26,c27,c28,c29,c30,c31,c32,c33,c34,c35,c36,c37,c38,c39,c40,c41,c42,c43,c44,c45,c46,c47,c48,c49,c50,c51,c52,c53,c54,c55,c56,c57,c58,c59,c60,c61,c62,c63,c64,c65,c66,c67,c68,c69,c70,c71,c72,c73,c74,c75,d76,d77,d78,d79,d80,d81,d82,d83,d84,d85,d86,d87,d88,d89,d90,d91,d92,d93,d94,d95,d96,d97,d98,d99,d100,d101,d102,d103,d104,d105,d106,d107,d108,d109,d110,d111,d112,d113,d114,d115,d116,d117,d118,d119,d120,d121,d122,d123,d124,d125,d126,d127,d128,d129,d130,d131,d132,d133,d134,d135,d136,d137,d138,d139,d140,d141,d142,d143,d144,d145,d146,d147,d148,d149,d150,d151,d152,d153,d154,d155,d156,d157,d158,d159,d160,d161,d162,d163,d164,d165,d166,d167,d168,d169,d170,d171,d172,d173,d174,d175,d176,d177,d178,d179,d180,d181,d182,d183,d184,d185,d186,d187,d188,d189,d190,d191,d192,d193,d194,d195,d196,d197,d198,d199,d200,d201,d202,d203,d204,c205,c206,c207,c208,c209,c210,c211,c212,c213,c214,c215,c216,c217,c218,c219,c220,c221,c222,c223,c224,c225,c226,c227,c228,c229,c230,c231,c232,c233,c234,c235,c236,c237,c238,c239,c240,c241,c242,c243,c244,c245,c246,c247,c248,c249,c250,c251,c252,c253,c254,c255,c256,c257,c258,c259,c260,c261,c262,c263,c264,c265,c266,c267,c268,c269,c270,c271,c272,c273,c274,c275,c276,c277,c278,c279,c280,c281,c282,c283,c284,c285,c286,c287,c288,c289,c290,c291,c292,c293,c294,c295,c296,c297,c298],[]⟩ w') :
  Code.wp Tryz.prog (dropSeq 3 (tsIn (Tryz.f3.body.getD .skip))) Q ⟨#[c0,c1,c2,c3,.pointer (some ⟨H,0,none⟩),c5,.slice p1 e1.length m1,.slice p2 e2.length m2,.int .i64 (d.lg.ls.length:Int),.int .i64 (k:Int),.pointer (some ⟨bs,0,none⟩),.int .i64 kv,c12,c13,c14,c15,c16,c17,c18,c19,c20,c21,c22,c23,c24,c25,c26,c27,c28,c29,c30,c31,c32,c33,c34,c35,c36,c37,c38,c39,c40,c41,c42,c43,c44,c45,c46,c47,c48,c49,c50,c51,c52,c53,c54,c55,c56,c57,c58,c59,c60,c61,c62,c63,c64,c65,c66,c67,c68,c69,c70,c71,c72,c73,c74,c75,c76,c77,c78,c79,c80,c81,c82,c83,c84,c85,c86,c87,c88,c89,c90,c91,c92,c93,c94,c95,c96,c97,c98,c99,c100,c101,c102,c103,c104,c105,c106,c107,c108,c109,c110,c111,c112,c113,c114,c115,c116,c117,c118,c119,c120,c121,c122,c123,c124,c125,c126,c127,c128,c129,c130,c131,c132,c133,c134,c135,c136,c137,c138,c139,c140,c141,c142,c143,c144,c145,c146,c147,c148,c149,c150,c151,c152,c153,c154,c155,c156,c157,c158,c159,c160,c161,c162,c163,c164,c165,c166,c167,c168,c169,c170,c171,c172,c173,c174,c175,c176,c177,c178,c179,c180,c181,c182,c183,c184,c185,c186,c187,c188,c189,c190,c191,c192,c193,c194,c195,c196,c197,c198,c199,c200,c201,c202,c203,c204,c205,c206,c207,c208,c209,c210,c211,c212,c213,c214,c215,c216,c217,c218,c219,c220,c221,c222,c223,c224,c225,c226,c227,c228,c229,c230,c231,c232,c233,c234,c235,c236,c237,c238,c239,c240,c241,c242,c243,c244,c245,c246,c247,c248,c249,c250,c251,c252,c253,c254,c255,c256,c257,c258,c259,c260,c261,c262,c263,c264,c265,c266,c267,c268,c269,c270,c271,c272,c273,c274,c275,c276,c277,c278,c279,c280,c281,c282,c283,c284,c285,c286,c287,c288,c289,c290,c291,c292,c293,c294,c295,c296,c297,c298],[]⟩ w2:=by
 conv=>arg 2;whnf
 have cz0:=sb2 0 _ rfl
 have eq0:(x.what==0)=false:=by simp;omega
 have eq1:(x.what==1)=false:=by simp;omega
 have eq2:(x.what==2)=false:=by simp;omega
 by_cases w3:x.what=3
 ·have eq3:(x.what==3)=true:=by simp;omega
  clear w1 w3
  go_wp2
  exact hQ (by first|exact .inl rfl|exact .inr rfl) rfl sx.more ts2
 by_cases w4:x.what=4
 ·have eq3:(x.what==3)=false:=by simp;omega
  have eq4:(x.what==4)=true:=by simp;omega
  clear w1 w3 w4
  go_wp2
  exact hQ (by first|exact .inl rfl|exact .inr rfl) rfl sx.more ts2
 have w5:x.what=5:=by omega
 have eq3:(x.what==3)=false:=by simp;omega
 have eq4:(x.what==4)=false:=by simp;omega
 have eq5:(x.what==5)=true:=by simp;omega
 clear w1 w3 w4 w5
 go_wp2
 exact hQ (by first|exact .inl rfl|exact .inr rfl) rfl sx.more ts2
end Go.Proofs.YtmghmpclmphccaaGreatDoor.Pa
namespace Go.Proofs.YtmghmpclmphccaaGreatDoor.Pa
open Go.RowKit Go.Maps Vs
theorem ts_close {T:Td} (V:DFace T) {K2 X:Nat->Prop} {k m1 m2 H bs:Nat} {d:Dk} {S:Ses} {p1 p2:Option Addr} {e1 e2:List Dt} {x:Hs} {kv:Int} {w w2:World} {Q:Exit->Act->World->Prop} {c0 c1 c2 c3 c5 c12 c13 c14 c15 c16 c17 c18 c19 c20 c21 c22 c23 c24 c25 c26 c27 c28 c29 c30 c31 c32 c33 c34 c35 c36 c37 c38 c39 c40 c41 c42 c43 c44 c45 c46 c47 c48 c49 c50 c51 c52 c53 c54 c55 c56 c57 c58 c59 c60 c61 c62 c63 c64 c65 c66 c67 c68 c69 c70 c71 c72 c73 c74 c75 c76 c77 c78 c79 c80 c81 c82 c83 c84 c85 c86 c87 c88 c89 c90 c91 c92 c93 c94 c95 c96 c97 c98 c99 c100 c101 c102 c103 c104 c105 c106 c107 c108 c109 c110 c111 c112 c113 c114 c115 c116 c117 c118 c119 c120 c121 c122 c123 c124 c125 c126 c127 c128 c129 c130 c131 c132 c133 c134 c135 c136 c137 c138 c139 c140 c141 c142 c143 c144 c145 c146 c147 c148 c149 c150 c151 c152 c153 c154 c155 c156 c157 c158 c159 c160 c161 c162 c163 c164 c165 c166 c167 c168 c169 c170 c171 c172 c173 c174 c175 c176 c177 c178 c179 c180 c181 c182 c183 c184 c185 c186 c187 c188 c189 c190 c191 c192 c193 c194 c195 c196 c197 c198 c199 c200 c201 c202 c203 c204 c205 c206 c207 c208 c209 c210 c211 c212 c213 c214 c215 c216 c217 c218 c219 c220 c221 c222 c223 c224 c225 c226 c227 c228 c229 c230 c231 c232 c233 c234 c235 c236 c237 c238 c239 c240 c241 c242 c243 c244 c245 c246 c247 c248 c249 c250 c251 c252 c253 c254 c255 c256 c257 c258 c259 c260 c261 c262 c263 c264 c265 c266 c267 c268 c269 c270 c271 c272 c273 c274 c275 c276 c277 c278 c279 c280 c281 c282 c283 c284 c285 c286 c287 c288 c289 c290 c291 c292 c293 c294 c295 c296 c297 c298:Value}
  (en:En w) (hlt60:k<60) (hel:e1.length<=8) (hel2:e2.length<=60) (h1c:e1.length<=m1) (h1m:m1<=9223372036854775807) (hxo:HsOk x) (sx:Sx k d S (e1.map (·.x)) (e2.map (·.x))) (ts2:Ts T K2 X w w2 H d S (.slice p1 e1.length m1) (.slice p2 e2.length m2) e1 e2) (sb2:Hb w2 bs x) (hKs2:K2 bs) (F:Fnd e1 x.who e1.length kv) (w1:x.what=1)
  (hQ:∀ {ex:Exit} {d':Dk} {S':Ses} {v1' v2' v8':Value} {e1' e2':List Dt} {K' X':Nat->Prop} {w':World} {d13 d14 d15 d16 d17 d18 d19 d20 d21 d22 d23 d76 d77 d78 d79 d80 d81 d82 d83 d84 d85 d86 d87 d88 d89 d90 d91 d92 d93 d94 d95 d96 d97 d98 d99 d100 d101 d102 d103 d104 d105 d106 d107 d108 d109 d110 d111 d112 d113 d114 d115 d116 d117 d118 d119 d120 d121 d122 d123 d124 d125 d126 d127 d128 d129 d130 d131 d132 d133 d134 d135 d136 d137 d138 d139 d140 d141 d142 d143 d144 d145 d146 d147 d148 d149 d150 d151 d152 d153 d154 d155 d156 d157 d158 d159 d160 d161 d162 d163 d164 d165 d166 d167 d168 d169 d170 d171 d172 d173 d174 d175 d176 d177 d178 d179 d180 d181 d182 d183 d184 d185 d186 d187 d188 d189 d190 d191 d192 d193 d194 d195 d196 d197 d198 d199 d200 d201 d202 d203 d204:Value},(ex=.normal \/ ex=.exit 1)->v8'=.int .i64 (d'.lg.ls.length:Int)->Sx (k+1) d' S' (e1'.map (·.x)) (e2'.map (·.x))->Ts T K' X' w w' H d' S' v1' v2' e1' e2'->Q ex ⟨#[c0,c1,c2,c3,.pointer (some ⟨H,0,none⟩),c5,v1',v2',v8',.int .i64 (k:Int),.pointer (some ⟨bs,0,none⟩),.int .i64 kv,c12,d13,d14,d15,d16,d17,d18,d19,d20,d21,d22,d23,c24,c25,c26,c27,c28,c29,c30,c31,c32,c33,c34,c35,c36,c37,c38,c39,c40,c41,c42,c43,c44,c45,c46,c47,c48,c49,c50,c51,c52,c53,c54,c55,c56,c57,c58,c59,c60,c61,c62,c63,c64,c65,c66,c67,c68,c69,c70,c71,c72,c73,c74,c75,d76,d77,d78,d79,d80,d81,d82,d83,d84,d85,d86,d87,d88,d89,d90,d91,d92,d93,d94,d95,d96,d97,d98,d99,d100,d101,d102,d103,d104,d105,d106,d107,d108,d109,d110,d111,d112,d113,d114,d115,d116,d117,d118,d119,d120,d121,d122,d123,d124,d125,d126,d127,d128,d129,d130,d131,d132,d133,d134,d135,d136,d137,d138,d139,d140,d141,d142,d143,d144,d145,d146,d147,d148,d149,d150,d151,d152,d153,d154,d155,d156,d157,d158,d159,d160,d161,d162,d163,d164,d165,d166,d167,d168,d169,d170,d171,d172,d173,d174,d175,d176,d177,d178,d179,d180,d181,d182,d183,d184,d185,d186,d187,d188,d189,d190,d191,d192,d193,d194,d195,d196,d197,d198,d199,d200,d201,d202,d203,d204,c205,c206,c207,c208,c209,c210,c211,c212,c213,c214,c215,c216,c217,c218,c219,c220,c221,c222,c223,c224,c225,c226,c227,c228,c229,c230,c231,c232,c233,c234,c235,c236,c237,c238,c239,c240,c241,c242,c243,c244,c245,c246,c247,c248,c249,c250,c251,c252,c253,c254,c255,c256,c257,c258,c259,c260,c261,c262,c263,c264,c265,c266,c267,c268,c269,c270,c271,c272,c273,c274,c275,c276,c277,c278,c279,c280,c281,c282,c283,c284,c285,c286,c287,c288,c289,c290,c291,c292,c293,c294,c295,c296,c297,c298],[]⟩ w') :
  Code.wp Tryz.prog (dropSeq 3 (tsIn (Tryz.f3.body.getD .skip))) Q ⟨#[c0,c1,c2,c3,.pointer (some ⟨H,0,none⟩),c5,.slice p1 e1.length m1,.slice p2 e2.length m2,.int .i64 (d.lg.ls.length:Int),.int .i64 (k:Int),.pointer (some ⟨bs,0,none⟩),.int .i64 kv,c12,c13,c14,c15,c16,c17,c18,c19,c20,c21,c22,c23,c24,c25,c26,c27,c28,c29,c30,c31,c32,c33,c34,c35,c36,c37,c38,c39,c40,c41,c42,c43,c44,c45,c46,c47,c48,c49,c50,c51,c52,c53,c54,c55,c56,c57,c58,c59,c60,c61,c62,c63,c64,c65,c66,c67,c68,c69,c70,c71,c72,c73,c74,c75,c76,c77,c78,c79,c80,c81,c82,c83,c84,c85,c86,c87,c88,c89,c90,c91,c92,c93,c94,c95,c96,c97,c98,c99,c100,c101,c102,c103,c104,c105,c106,c107,c108,c109,c110,c111,c112,c113,c114,c115,c116,c117,c118,c119,c120,c121,c122,c123,c124,c125,c126,c127,c128,c129,c130,c131,c132,c133,c134,c135,c136,c137,c138,c139,c140,c141,c142,c143,c144,c145,c146,c147,c148,c149,c150,c151,c152,c153,c154,c155,c156,c157,c158,c159,c160,c161,c162,c163,c164,c165,c166,c167,c168,c169,c170,c171,c172,c173,c174,c175,c176,c177,c178,c179,c180,c181,c182,c183,c184,c185,c186,c187,c188,c189,c190,c191,c192,c193,c194,c195,c196,c197,c198,c199,c200,c201,c202,c203,c204,c205,c206,c207,c208,c209,c210,c211,c212,c213,c214,c215,c216,c217,c218,c219,c220,c221,c222,c223,c224,c225,c226,c227,c228,c229,c230,c231,c232,c233,c234,c235,c236,c237,c238,c239,c240,c241,c242,c243,c244,c245,c246,c247,c248,c249,c250,c251,c252,c253,c254,c255,c256,c257,c258,c259,c260,c261,c262,c263,c264,c265,c266,c267,c268,c269,c270,c271,c272,c273,c274,c275,c276,c277,c278,c279,c280,c281,c282,c283,c284,c285,c286,c287,c288,c289,c290,c291,c292,c293,c294,c295,c296,c297,c298],[]⟩ w2:=by
 conv=>arg 2;whnf
 have cz0:=sb2 0 _ rfl
 have cz1:=sb2 1 _ rfl
 have cz2:=sb2 2 _ rfl
 have cz3:=sb2 3 _ rfl
 have cz4:=sb2 4 _ rfl
 have cz5:=sb2 5 _ rfl
 have cz6:=sb2 6 _ rfl
 have cz7:=sb2 7 _ rfl
 have cz8:=sb2 8 _ rfl
 have cz9:=sb2 9 _ rfl
 have eq0:(x.what==0)=false:=by simp;omega
 have eq1:(x.what==1)=true:=by simp;omega
 clear w1
 rcases F with ⟨rfl,hno⟩|⟨j,y,hj,hy,hyw,rfl⟩
 ·clear hno
  go_wp2
  exact hQ (by first|exact .inl rfl|exact .inr rfl) (by first|rfl|(rfl)) (sx.more) ts2
 ·have hj':(j:Int)<(e1.length:Int):=by omega
  have hj0:decide ((j:Int)<0)=false:=by simp
  have hcp:(j:Int)<=(m1:Int):=by omega
  have hcp1:(j:Int)+1<=(m1:Int):=by omega
  have hcp2:(j:Int)+1<=(e1.length:Int):=by omega
  obtain⟨g,eg,hgl,hKg,b0,b1,b2,b3,b4⟩:=ts2.r1.at hy
  cases eg
  have hym:=List.mem_of_getElem? hy
  have hyx:(e1.map (·.x))[j]? = some y.x:=by rw[List.getElem?_map,hy];rfl
  have dq:=ts2.r1.each _ hym
  obtain⟨⟨yw,yn,ycs,ytd,yow⟩,va,vb,vc,us⟩:=y
  have hyw':yw=x.who:=hyw
  subst hyw'
  obtain⟨pa,ca,ea,ha1,ha2⟩:=dq.a.form
  obtain⟨pb,cb,eb,hb1,hb2⟩:=dq.b.form
  obtain⟨pc,cc,ec,hc1,hc2⟩:=dq.c.form
  simp only at ea eb ec b0 b1 b2 b3 b4
  subst ea eb ec
  have hbA:=below_al (below_self w2) (.cells #[.string x.who,.int .i64 yn,.slice pa ycs.length ca,.slice pb ytd.length cb,.slice pc ytd.length cc] 40)
  have tb0:=Tb.new w2 40 ⟨⟨x.who,yn,ycs,ytd,yow⟩,.slice pa ycs.length ca,.slice pb ytd.length cb,.slice pc ytd.length cc,us⟩
  obtain⟨wA,hwA⟩:∃ wA,wA=w2.alloc (.cells #[.string x.who,.int .i64 yn,.slice pa ycs.length ca,.slice pb ytd.length cb,.slice pc ytd.length cc] 40):=⟨_,rfl⟩
  have fbA:wA.frozen? ⟨w2.heap.size,1,none⟩=false:=by rw[hwA];simp
  rw[<- hwA] at hbA tb0
  have tsA:=ts2.kn V hbA
  have dqA:=dq.but (E:=fun _=>False) (X':=X) (.below hbA) (fun _ _=>id) (fun _ _ g=>g)
  have sbA:=sb2.step hbA
  have hKA:Kn K2 w2 wA w2.heap.size:=.inr ⟨Nat.le_refl _,tb0.lt⟩
  have hXA:¬ X w2.heap.size:=fun hX=>by have:=ts2.h.kl _ (ts2.xk _ hX);omega
  have hvA:(Value.slice p2 e2.length m2).ownBlock≠some w2.heap.size:=fun hv=>by have:=(op_lt ts2.r2.row hv).2;omega
  have hwB:w.heap.size<=w2.heap.size:=ts2.h.bl.size
  have hKs3:Kn K2 w2 wA bs:=.inl hKs2
  obtain⟨Bx,hBx⟩:∃ Bx,Bx=w2.heap.size:=⟨_,rfl⟩
  rw[<- hBx] at tb0 fbA hKA hXA hvA hwB
  obtain⟨KA,hKA'⟩:∃ KA,KA=Kn K2 w2 wA:=⟨_,rfl⟩
  rw[<- hKA'] at tsA hKA hKs3
  go_upto_region 39 with fail
  go_cut [14] from 158 to 161 (fun v14 wy=>v14=.pointer (some ⟨Bx,0,none⟩)/\wy=wA)
  case first=>
   go_wp2
   go_meet
   case rel=>exact⟨by rw[hBx],hwA.symm⟩
  case rest=>
  obtain⟨rfl,rfl⟩:=hcut
  obtain⟨wy,rfl⟩:∃ wy,wy=wc:=⟨wc,rfl⟩
  refine ‹∀ (a:Act) (w:World),Code.wp _ _ _ a w->_› _ _ ?_
  have hglA:=Nat.lt_of_lt_of_le hgl hbA.size
  clear hwA hBx hKA' hbA ts2 sb2 dq cz0 cz1 cz2 cz3 cz4 cz5 cz6 cz7 cz8 cz9 b0 b1 b2 b3 b4 hKs2 hKg hgl
  go_upto_region 42 with (at_builtin;refine wpList_append_at 29 40 5 96 _ Tryz.underlying29 infoTk rfl (by decide) (by decide) rfl _ _ rfl wy.heap.size _ 0 [] rfl (World.ownsRow_nil _ _ _ _) (Nat.le_refl _) g 0 j m1 ((e1.take j).flatMap encT) rfl (by rw[encT_len,List.length_take];omega) (fun i u hi=>by rw[Nat.zero_add,tsA.r1.row.cellAt i (by have:=(List.getElem?_eq_some_iff.1 hi).1;rw[encT_len,List.length_take] at this;omega)];exact fl_take hi) (fl_one (fun e he=>tsA.r1.each e (List.mem_of_mem_take he))) (by omega) ?_;intro v4 w4 own4 hg4 hat4;have hbB:Below wy.heap.size wy w4:=(Below.refl _ _).grown hg4 (Nat.le_refl _) (fun k e=>by cases e))
  go_cut [6] from 167 to 172 (fun v1 wz=>∃ K6:Nat->Prop,Ts T K6 X w wz H d S v1 (.slice p2 e2.length m2) (e1.eraseIdx j) e2/\Tb wz Bx ⟨⟨x.who,yn,ycs,ytd,yow⟩,.slice pa ycs.length ca,.slice pb ytd.length cb,.slice pc ytd.length cc,us⟩/\DtOk X wz ⟨⟨x.who,yn,ycs,ytd,yow⟩,.slice pa ycs.length ca,.slice pb ytd.length cb,.slice pc ytd.length cc,us⟩/\wz.frozen? ⟨Bx,1,none⟩=false/\K6 Bx/\K6 bs/\v1.ownBlock≠some Bx/\Hb wz bs x)
  case first=>
   by_cases hcap:j+1<m1
   ·go_wp2_with (at_builtin;refine wpList_append_at 29 40 5 96 _ Tryz.underlying29 infoTk rfl (by decide) (by decide) rfl _ _ rfl wy.heap.size _ (0+j) ([]++(e1.take j).flatMap encT) rfl own4 hbB.size g ((j+1)*5) _ _ ((e1.drop (j+1)).flatMap encT) rfl (by rw[encT_len,List.length_drop]) (fun i u hi=>by rw[(hbB.cell (p:=⟨g,(j+1)*5+i,none⟩) hglA),tsA.r1.row.cellAt _ (by have:=(List.getElem?_eq_some_iff.1 hi).1;rw[encT_len,List.length_drop] at this;omega)];exact fl_drop (by omega) hi) (fl_one (fun e he=>tsA.r1.each e (List.mem_of_mem_drop he))) (by omega) ?_;intro v5 w5 own5 hg5 hat5)
    go_meet
    case rel=>
     have hbC:Below wy.heap.size wy w5:=hbB.grown hg5 hbB.size (fun k e=>(own4.lt k e).1)
     have ts3:=tsA.kn V hbC
     have row5:w5.ownsRow wy.heap.size 40 5 v5 (e1.eraseIdx j).length ((e1.eraseIdx j).flatMap encT):=by rw[List.eraseIdx_eq_take_drop_succ,List.length_append,List.length_take,List.length_drop,List.flatMap_append,Nat.min_eq_left (by omega)];rw[Nat.zero_add,List.nil_append] at own5;exact own5
     have ts4:=ts3.swap (es:=e1.eraseIdx j) row5 tsA.h.bl.size (fun i h1 h2=>⟨.inr ⟨h1,h2⟩,fun hX=>by have:=tsA.h.kl i (tsA.xk i hX);omega,fun hv=>by have:=(op_lt tsA.r2.row hv).2;omega⟩) (fun e he=>ts3.r1.each e (List.mem_of_mem_eraseIdx he))
     exact⟨_,ts4,tb0.step hbC,dqA.but (E:=fun _=>False) (X':=X) (.below hbC) (fun _ _=>id) (fun _ _ g=>g),(hbC.frozen (p:=⟨Bx,1,none⟩) tb0.lt).trans fbA,.inl hKA,.inl hKs3,fun hv=>by have:=(op_lt row5 hv).1;have:=tb0.lt;omega,sbA.step hbC⟩
   ·have hcap':m1<=j+1:=by omega
    clear hcap
    go_wp2_with (at_builtin;refine wpList_append_at 29 40 5 96 _ Tryz.underlying29 infoTk rfl (by decide) (by decide) rfl _ _ rfl wy.heap.size _ (0+j) ([]++(e1.take j).flatMap encT) rfl own4 hbB.size g 0 _ _ ((e1.drop (j+1)).flatMap encT) rfl (by rw[encT_len,List.length_drop]) (fun i u hi=>by have:=(List.getElem?_eq_some_iff.1 hi).1;rw[encT_len,List.length_drop] at this;omega) (fl_one (fun e he=>tsA.r1.each e (List.mem_of_mem_drop he))) (by omega) ?_;intro v5 w5 own5 hg5 hat5)
    go_meet
    case rel=>
     have hbC:Below wy.heap.size wy w5:=hbB.grown hg5 hbB.size (fun k e=>(own4.lt k e).1)
     have ts3:=tsA.kn V hbC
     have row5:w5.ownsRow wy.heap.size 40 5 v5 (e1.eraseIdx j).length ((e1.eraseIdx j).flatMap encT):=by rw[List.eraseIdx_eq_take_drop_succ,List.length_append,List.length_take,List.length_drop,List.flatMap_append,Nat.min_eq_left (by omega)];rw[Nat.zero_add,List.nil_append] at own5;exact own5
     have ts4:=ts3.swap (es:=e1.eraseIdx j) row5 tsA.h.bl.size (fun i h1 h2=>⟨.inr ⟨h1,h2⟩,fun hX=>by have:=tsA.h.kl i (tsA.xk i hX);omega,fun hv=>by have:=(op_lt tsA.r2.row hv).2;omega⟩) (fun e he=>ts3.r1.each e (List.mem_of_mem_eraseIdx he))
     exact⟨_,ts4,tb0.step hbC,dqA.but (E:=fun _=>False) (X':=X) (.below hbC) (fun _ _=>id) (fun _ _ g=>g),(hbC.frozen (p:=⟨Bx,1,none⟩) tb0.lt).trans fbA,.inl hKA,.inl hKs3,fun hv=>by have:=(op_lt row5 hv).1;have:=tb0.lt;omega,sbA.step hbC⟩
  case rest=>
  obtain⟨K6,ts4,tb5,dq5,fb5,hK5,hKs5,hv15,sb5⟩:=hcut
  refine ‹∀ (a:Act) (w:World),Code.wp _ _ _ a w->_› _ _ ?_
  clear tsA dqA sbA tb0 fbA hKA hKs3 own4 hg4 hat4 hbB hglA
  have cz0:=sb5 0 _ rfl
  have cz1:=sb5 1 _ rfl
  have P1:=ts4.h.close V x.who sx.dp (by omega) hxo.who
  have hN:((wasT d.lg.ls).length:Int)=d.lg.ls.length+1:=by rw[wasT_len];rfl
  rcases sx.close (by omega) hyx with ⟨hf,ow,sx2⟩|⟨hf,sx2⟩
  ·simp only at hf sx2
   have hnm:=(sx2.num (List.mem_append.2 (.inr (List.mem_singleton.2 rfl)))).2
   simp only at hnm
   rw[hf,ev_0] at P1
   go_upto_if 199 with (first
    | (at_builtin;refine wpList_append_oneAt 29 40 5 96 _ Tryz.underlying29 infoTk rfl (by decide) (by decide) rfl _ _ rfl w.heap.size _ e2.length (e2.flatMap encT) rfl ts7.r2.row hw7 w6.heap.size (encT ⟨⟨x.who,hcN d S x.who,ycs,ytd,ow⟩,.slice pa ycs.length ca,.slice pb ytd.length cb,.slice pc ytd.length cc,us⟩) rfl rfl (five_new _ _ _ _ _ _ _ _ (by simp[World.setCell])) (fl_one (l:=[⟨⟨x.who,hcN d S x.who,ycs,ytd,ow⟩,.slice pa ycs.length ca,.slice pb ytd.length cb,.slice pc ytd.length cc,us⟩]) (fun e he=>by rw[List.mem_singleton.1 he];exact dq9)) (by omega) ?_;intro v8 w8 own8 hg8 hat8;have ts8:=ts7.push2 V en own8 hg8 hat8 dq9)
    | (go_at_call 10;refine P1.mono ?_;clear P1;rintro e w6 ⟨rfl,h6,hb6⟩;have ts5:=ts4.op h6 hb6;have tb6:=tb5.but hb6 (fun g=>g hK5);have fb6:w6.frozen? ⟨Bx,1,none⟩=false:=(hb6.frozen (p:=⟨Bx,1,none⟩) tb5.lt (fun g=>g hK5)).trans fb5;have dq6:=dq5.but (X':=X) hb6 (fun i hi g=>g (ts4.xk i hi)) (fun _ _ g=>g);have hbS:But (fun i=>i=Bx) w6 (w6.setCell ⟨Bx,1,none⟩ (.int .i64 (hcN d S x.who))):=lw_set;have ts6:=ts5.mine V en hbS (fun i hi=>by rw[hi];exact⟨hK5,hwB,hXA,hv15,hvA⟩);have dq7:=dq6.but (X':=X) hbS (fun i hi g=>hXA (g ▸ hi)) (fun _ _ g=>g);obtain⟨k0,k1,k2,k3,k4⟩:=tb6;simp only at k0 k1 k2 k3 k4;have hbT:=below_al (below_self (w6.setCell ⟨Bx,1,none⟩ (.int .i64 (hcN d S x.who)))) (.cells #[.string x.who,.int .i64 (hcN d S x.who),.slice pa ycs.length ca,.slice pb ytd.length cb,.slice pc ytd.length cc] 40);have ts7:=ts6.kn V hbT;have dq8:=dq7.but (E:=fun _=>False) (X':=X) (.below hbT) (fun _ _=>id) (fun _ _ g=>g);have dq9:DtOk X _ ⟨⟨x.who,hcN d S x.who,ycs,ytd,ow⟩,.slice pa ycs.length ca,.slice pb ytd.length cb,.slice pc ytd.length cc,us⟩:=⟨dq8.a,dq8.b,dq8.c,dq8.u,dq8.n,dq8.l,dq8.m⟩;have hw7:=ts7.h.bl.size;clear tb5 dq5 fb5 hb6 h6 ts4 ts5 ts6 dq6 dq7 dq8 hbS))
   rcases kq_close sx.dp.ok S x.who with ⟨kq,kn⟩|⟨kr,-,kn⟩
   ·have hle:¬ ((d.lg.ls.length:Int)<hcN d S x.who):=by rw[kq.ls] at hnm;omega
    have hle':decide ((d.lg.ls.length:Int)<hcN d S x.who)=false:=by simp;omega
    have hle2:decide (hcN d S x.who > (d.lg.ls.length:Int))=false:=by simp;omega
    have kl:=kq.ls
    clear hnm hN kn kq hf
    go_wp2
    exact hQ (by first|exact .inl rfl|exact .inr rfl) (by first|rfl|(rw[kl])) (by rw[map_er,List.map_append];exact sx2) ts8
   ·obtain⟨own,kl⟩:=kr.ls
    have hlt3:(d.lg.ls.length:Int)<hcN d S x.who:=by omega
    have hle2:decide (hcN d S x.who > (d.lg.ls.length:Int))=true:=by simp;omega
    have kn':Hid (hcN d S x.who=d.lg.ls.length+1):=by show _=_;omega
    clear hnm hN kn hf
    go_wp2
    exact hQ (by first|exact .inl rfl|exact .inr rfl) (by first|rfl|(rw[kn'.out,kl,List.length_append];rfl)) (by rw[map_er,List.map_append];exact sx2) ts8
  ·simp only at hf sx2
   rw[ev_ne hf] at P1
   have kl:(hcD d S x.who).lg.ls=d.lg.ls:=by
    rcases kq_close sx.dp.ok S x.who with ⟨kq,_⟩|⟨_,kf,_⟩
    ·exact kq.ls
    ·exact absurd kf hf
   clear hf hN tb5 dq5 fb5 hv15 hXA hvA hwB
   go_wp2_with fail
   refine P1.mono ?_
   clear P1
   rintro e w6 ⟨rfl,h6,hb6⟩
   have ts5:=ts4.op h6 hb6
   clear h6 hb6 ts4
   go_wp2
   exact hQ (by first|exact .inl rfl|exact .inr rfl) (by first|rfl|(rw[kl])) (by rw[map_er];exact sx2) ts5
end Go.Proofs.YtmghmpclmphccaaGreatDoor.Pa
namespace Go.Proofs.YtmghmpclmphccaaGreatDoor.Pa
open Go.RowKit Go.Maps Vs
theorem ts_asks {T:Td} (V:DFace T) {K2 X:Nat->Prop} {k m1 m2 H bs:Nat} {d:Dk} {S:Ses} {p1 p2:Option Addr} {e1 e2:List Dt} {x:Hs} {kv:Int} {w w2:World} {Q:Exit->Act->World->Prop} {c0 c1 c2 c3 c5 c12 c13 c14 c15 c16 c17 c18 c19 c20 c21 c22 c23 c24 c25 c26 c27 c28 c29 c30 c31 c32 c33 c34 c35 c36 c37 c38 c39 c40 c41 c42 c43 c44 c45 c46 c47 c48 c49 c50 c51 c52 c53 c54 c55 c56 c57 c58 c59 c60 c61 c62 c63 c64 c65 c66 c67 c68 c69 c70 c71 c72 c73 c74 c75 c76 c77 c78 c79 c80 c81 c82 c83 c84 c85 c86 c87 c88 c89 c90 c91 c92 c93 c94 c95 c96 c97 c98 c99 c100 c101 c102 c103 c104 c105 c106 c107 c108 c109 c110 c111 c112 c113 c114 c115 c116 c117 c118 c119 c120 c121 c122 c123 c124 c125 c126 c127 c128 c129 c130 c131 c132 c133 c134 c135 c136 c137 c138 c139 c140 c141 c142 c143 c144 c145 c146 c147 c148 c149 c150 c151 c152 c153 c154 c155 c156 c157 c158 c159 c160 c161 c162 c163 c164 c165 c166 c167 c168 c169 c170 c171 c172 c173 c174 c175 c176 c177 c178 c179 c180 c181 c182 c183 c184 c185 c186 c187 c188 c189 c190 c191 c192 c193 c194 c195 c196 c197 c198 c199 c200 c201 c202 c203 c204 c205 c206 c207 c208 c209 c210 c211 c212 c213 c214 c215 c216 c217 c218 c219 c220 c221 c222 c223 c224 c225 c226 c227 c228 c229 c230 c231 c232 c233 c234 c235 c236 c237 c238 c239 c240 c241 c242 c243 c244 c245 c246 c247 c248 c249 c250 c251 c252 c253 c254 c255 c256 c257 c258 c259 c260 c261 c262 c263 c264 c265 c266 c267 c268 c269 c270 c271 c272 c273 c274 c275 c276 c277 c278 c279 c280 c281 c282 c283 c284 c285 c286 c287 c288 c289 c290 c291 c292 c293 c294 c295 c296 c297 c298:Value}
  (en:En w) (hlt60:k<60) (hxo:HsOk x) (sx:Sx k d S (e1.map (·.x)) (e2.map (·.x))) (ts2:Ts T K2 X w w2 H d S (.slice p1 e1.length m1) (.slice p2 e2.length m2) e1 e2) (sb2:Hb w2 bs x) (hKs2:K2 bs) (F:Fnd e1 x.who e1.length kv) (w1:¬ (0<=x.what/\x.what<=5))
  (hQ:∀ {ex:Exit} {d':Dk} {S':Ses} {v1' v2' v8':Value} {e1' e2':List Dt} {K' X':Nat->Prop} {w':World} {d13 d14 d15 d16 d17 d18 d19 d20 d21 d22 d23 d76 d77 d78 d79 d80 d81 d82 d83 d84 d85 d86 d87 d88 d89 d90 d91 d92 d93 d94 d95 d96 d97 d98 d99 d100 d101 d102 d103 d104 d105 d106 d107 d108 d109 d110 d111 d112 d113 d114 d115 d116 d117 d118 d119 d120 d121 d122 d123 d124 d125 d126 d127 d128 d129 d130 d131 d132 d133 d134 d135 d136 d137 d138 d139 d140 d141 d142 d143 d144 d145 d146 d147 d148 d149 d150 d151 d152 d153 d154 d155 d156 d157 d158 d159 d160 d161 d162 d163 d164 d165 d166 d167 d168 d169 d170 d171 d172 d173 d174 d175 d176 d177 d178 d179 d180 d181 d182 d183 d184 d185 d186 d187 d188 d189 d190 d191 d192 d193 d194 d195 d196 d197 d198 d199 d200 d201 d202 d203 d204:Value},(ex=.normal \/ ex=.exit 1)->v8'=.int .i64 (d'.lg.ls.length:Int)->Sx (k+1) d' S' (e1'.map (·.x)) (e2'.map (·.x))->Ts T K' X' w w' H d' S' v1' v2' e1' e2'->Q ex ⟨#[c0,c1,c2,c3,.pointer (some ⟨H,0,none⟩),c5,v1',v2',v8',.int .i64 (k:Int),.pointer (some ⟨bs,0,none⟩),.int .i64 kv,c12,d13,d14,d15,d16,d17,d18,d19,d20,d21,d22,d23,c24,c25,c26,c27,c28,c29,c30,c31,c32,c33,c34,c35,c36,c37,c38,c39,c40,c41,c42,c43,c44,c45,c46,c47,c48,c49,c50,c51,c52,c53,c54,c55,c56,c57,c58,c59,c60,c61,c62,c63,c64,c65,c66,c67,c68,c69,c70,c71,c72,c73,c74,c75,d76,d77,d78,d79,d80,d81,d82,d83,d84,d85,d86,d87,d88,d89,d90,d91,d92,d93,d94,d95,d96,d97,d98,d99,d100,d101,d102,d103,d104,d105,d106,d107,d108,d109,d110,d111,d112,d113,d114,d115,d116,d117,d118,d119,d120,d121,d122,d123,d124,d125,d126,d127,d128,d129,d130,d131,d132,d133,d134,d135,d136,d137,d138,d139,d140,d141,d142,d143,d144,d145,d146,d147,d148,d149,d150,d151,d152,d153,d154,d155,d156,d157,d158,d159,d160,d161,d162,d163,d164,d165,d166,d167,d168,d169,d170,d171,d172,d173,d174,d175,d176,d177,d178,d179,d180,d181,d182,d183,d184,d185,d186,d187,d188,d189,d190,d191,d192,d193,d194,d195,d196,d197,d198,d199,d200,d201,d202,d203,d204,c205,c206,c207,c208,c209,c210,c211,c212,c213,c214,c215,c216,c217,c218,c219,c220,c221,c222,c223,c224,c225,c226,c227,c228,c229,c230,c231,c232,c233,c234,c235,c236,c237,c238,c239,c240,c241,c242,c243,c244,c245,c246,c247,c248,c249,c250,c251,c252,c253,c254,c255,c256,c257,c258,c259,c260,c261,c262,c263,c264,c265,c266,c267,c268,c269,c270,c271,c272,c273,c274,c275,c276,c277,c278,c279,c280,c281,c282,c283,c284,c285,c286,c287,c288,c289,c290,c291,c292,c293,c294,c295,c296,c297,c298],[]⟩ w') :
  Code.wp Tryz.prog (dropSeq 3 (tsIn (Tryz.f3.body.getD .skip))) Q ⟨#[c0,c1,c2,c3,.pointer (some ⟨H,0,none⟩),c5,.slice p1 e1.length m1,.slice p2 e2.length m2,.int .i64 (d.lg.ls.length:Int),.int .i64 (k:Int),.pointer (some ⟨bs,0,none⟩),.int .i64 kv,c12,c13,c14,c15,c16,c17,c18,c19,c20,c21,c22,c23,c24,c25,c26,c27,c28,c29,c30,c31,c32,c33,c34,c35,c36,c37,c38,c39,c40,c41,c42,c43,c44,c45,c46,c47,c48,c49,c50,c51,c52,c53,c54,c55,c56,c57,c58,c59,c60,c61,c62,c63,c64,c65,c66,c67,c68,c69,c70,c71,c72,c73,c74,c75,c76,c77,c78,c79,c80,c81,c82,c83,c84,c85,c86,c87,c88,c89,c90,c91,c92,c93,c94,c95,c96,c97,c98,c99,c100,c101,c102,c103,c104,c105,c106,c107,c108,c109,c110,c111,c112,c113,c114,c115,c116,c117,c118,c119,c120,c121,c122,c123,c124,c125,c126,c127,c128,c129,c130,c131,c132,c133,c134,c135,c136,c137,c138,c139,c140,c141,c142,c143,c144,c145,c146,c147,c148,c149,c150,c151,c152,c153,c154,c155,c156,c157,c158,c159,c160,c161,c162,c163,c164,c165,c166,c167,c168,c169,c170,c171,c172,c173,c174,c175,c176,c177,c178,c179,c180,c181,c182,c183,c184,c185,c186,c187,c188,c189,c190,c191,c192,c193,c194,c195,c196,c197,c198,c199,c200,c201,c202,c203,c204,c205,c206,c207,c208,c209,c210,c211,c212,c213,c214,c215,c216,c217,c218,c219,c220,c221,c222,c223,c224,c225,c226,c227,c228,c229,c230,c231,c232,c233,c234,c235,c236,c237,c238,c239,c240,c241,c242,c243,c244,c245,c246,c247,c248,c249,c250,c251,c252,c253,c254,c255,c256,c257,c258,c259,c260,c261,c262,c263,c264,c265,c266,c267,c268,c269,c270,c271,c272,c273,c274,c275,c276,c277,c278,c279,c280,c281,c282,c283,c284,c285,c286,c287,c288,c289,c290,c291,c292,c293,c294,c295,c296,c297,c298],[]⟩ w2:=by
 conv=>arg 2;whnf
 have cz0:=sb2 0 _ rfl
 have cz1:=sb2 1 _ rfl
 have cz2:=sb2 2 _ rfl
 have cz3:=sb2 3 _ rfl
 have cz4:=sb2 4 _ rfl
 have cz5:=sb2 5 _ rfl
 have cz6:=sb2 6 _ rfl
 have cz7:=sb2 7 _ rfl
 have cz8:=sb2 8 _ rfl
 have cz9:=sb2 9 _ rfl
 have eq0:(x.what==0)=false:=by simp;omega
 have eq1:(x.what==1)=false:=by simp;omega
 have eq2:(x.what==2)=false:=by simp;omega
 have eq3:(x.what==3)=false:=by simp;omega
 have eq4:(x.what==4)=false:=by simp;omega
 have eq5:(x.what==5)=false:=by simp;omega
 clear w1
 rcases F with ⟨rfl,hno⟩|⟨j,y,hj,hy,hyw,rfl⟩
 ·clear hno
  go_wp2
  exact hQ (by first|exact .inl rfl|exact .inr rfl) (by first|rfl|(rfl)) (sx.more) ts2
 ·have hj':(j:Int)<(e1.length:Int):=by omega
  have hj0:decide ((j:Int)<0)=false:=by simp
  have hym:=List.mem_of_getElem? hy
  have hyx:(e1.map (·.x))[j]? = some y.x:=by rw[List.getElem?_map,hy];rfl
  obtain⟨⟨yw,yn,ycs,ytd,yow⟩,va,vb,vc,us⟩:=y
  have hyw':yw=x.who:=hyw
  subst hyw'
  obtain⟨o,ea,ef,sx2⟩:=sx.ask hyx x.c
  have kl:=(kq_askX sx.dp.ok S x.who x.c).ls
  have hys:=sx.so _ (List.mem_of_getElem? hyx)
  simp only at ea ef sx2 hys
  have P1:=ts2.h.ask V x.who x.c sx.dp (by omega) hxo.who
  rw[ea,ef] at P1
  generalize tlC d.vs o x.c=t at P1 sx2
  obtain⟨ta,tf⟩:=t
  simp only at P1 sx2
  clear ea ef
  go_upto_region 20 with (go_at_call 11;refine P1.mono ?_;clear P1;rintro e w3 ⟨u,rfl,rowu,h3,hb3⟩;obtain⟨pu,cu,rfl⟩:=own_form rowu;have ts3:=ts2.ans h3 hb3 (fun i hi=>(op_lt rowu hi).1);have fzu:Fz (fun i=>X i \/ (Value.slice pu ta.l.length cu).ownBlock=some i) w3 31 2 (.slice pu ta.l.length cu) ta.l.length (pfV ta.l):=⟨ownMono (Nat.zero_le _) rowu,fun i hi=>.inr hi⟩;have sb3:=sb2.but hb3 (fun g=>g hKs2);clear ts2 sb2 h3 hb3 rowu)
  have hb4:=below_al (below_self w3) (.cells #[.int .i64 ta.p.1,.int .i64 ta.p.2,.int .i64 ta.ad,.string ta.ow,.slice pu ta.l.length cu] 46)
  have ab0:∀ (i:Nat) (v:Value),(encA ((ta,tf),.slice pu ta.l.length cu))[i]? = some v->(w3.alloc (.cells #[.int .i64 ta.p.1,.int .i64 ta.p.2,.int .i64 ta.ad,.string ta.ow,.slice pu ta.l.length cu] 46)).cell? ⟨w3.heap.size,i,none⟩=some v:=five_new _ _ _ _ _ _ _ _ rfl
  obtain⟨w4,hw4⟩:∃ w4,w4=w3.alloc (.cells #[.int .i64 ta.p.1,.int .i64 ta.p.2,.int .i64 ta.ad,.string ta.ow,.slice pu ta.l.length cu] 46):=⟨_,rfl⟩
  obtain⟨bx,hbx⟩:∃ bx,bx=w3.heap.size:=⟨_,rfl⟩
  rw[<- hw4] at hb4 ab0 ⊢
  rw[<- hbx] at ab0 ⊢
  have ts4:=ts3.kn V hb4
  have fz4:=fzu.but (E:=fun _=>False) (X':=fun i=>X i \/ (Value.slice pu ta.l.length cu).ownBlock=some i) (.below hb4) (fun _ _=>id) (fun _ _ g=>g)
  have sb4:=sb3.step hb4
  generalize (fun i=>X i \/ (Value.slice pu ta.l.length cu).ownBlock=some i)=X4 at ts4 fz4
  generalize Kn (fun j=>K2 j \/ (Value.slice pu ta.l.length cu).ownBlock=some j) w3 w4=K4 at ts4
  clear hw4 hb4 ts3 fzu sb3 hbx
  obtain⟨g,eg,hgl,hKg,b0,b1,b2,b3,b4⟩:=ts4.r1.at hy
  cases eg
  have dq:=ts4.r1.each _ hym
  simp only at b0 b1 b2 b3 b4
  have dqa:Fz X4 w4 33 7 va ycs.length (ycs.flatMap encC):=dq.a
  have dqb:Fz X4 w4 46 5 vb ytd.length ((ytd.zip us).flatMap encA):=dq.b
  have dqc:Fz X4 w4 4 1 vc ytd.length (ytd.map encB):=dq.c
  have dqo:=encA_one dq
  have htd0:ytd.length=ycs.length:=dq.l
  have hfr:∀ i,w4.frozen? ⟨g,i,none⟩=false:=fun i=>ts4.r1.row.frozenAt i
  have hc1':ycs.length<=1000:=dq.n
  have htd':ytd.length<=1000:=by omega
  have htd:Hid (ytd.length=ycs.length):=htd0
  clear htd0
  have hw4:=ts4.h.bl.size
  have hbxl:bx<w4.heap.size:=World.block_lt_of_cell? _ _ (ab0 0 _ rfl)
  clear cz0 cz1 cz2 cz3 cz4 cz5 cz6 cz7 cz8 cz9
  simp only at dqo
  rcases evB tf with ⟨ee,e0⟩|⟨ee,e0⟩
  ·skip
   rw[ee]
   have hbv:Hid (encB (ta,tf)=.bool false):=by
    show encB (ta,tf)=_
    unfold encB
    simp[e0]
   clear ee e0
   go_wp2_with (first
    | (at_builtin;have own9':=own9;refine wpList_append_oneAt 38 4 1 1 _ Tryz.underlying38 infoBo rfl (by decide) (by decide) rfl _ _ rfl w8.heap.size _ ytd.length (ytd.map encB) rfl (own9.alloc _) (by simp;omega) w9.heap.size [_] rfl rfl (op_cell _ _ _ _ rfl) bo_one (by omega) ?_;intro p10 w10 own10 hg10 hat10;obtain⟨pE,cE,rfl,-⟩:=lw_form own10;have hb10:Below w8.heap.size w8 w10:=(hb9.alloc (by omega) _).grown hg10 (by simp;omega) (fun k e=>(own9.lt k e).1);have hball:=below_via hb8w hb10;have q2:=(hball.cell (p:=⟨g,j*5+2,none⟩) hgl).trans b2;have q3:=(hball.cell (p:=⟨g,j*5+3,none⟩) hgl).trans b3;have q4:=(hball.cell (p:=⟨g,j*5+4,none⟩) hgl).trans b4;have f2:=(hball.frozen (p:=⟨g,j*5+2,none⟩) hgl).trans (hfr _);have f3:=(hball.frozen (p:=⟨g,j*5+3,none⟩) hgl).trans (hfr _);have f4:=(hball.frozen (p:=⟨g,j*5+4,none⟩) hgl).trans (hfr _))
    | (at_builtin;have own8':=own8;refine wpList_append_row 38 4 1 1 _ Tryz.underlying38 infoBo rfl (by decide) (by decide) rfl _ _ rfl w8.heap.size _ 0 [] rfl (World.ownsRow_nil _ _ _ _) (Nat.le_refl _) 0 _ ytd.length (ytd.map encB) rfl (own_below dqc.1 hb8w) (encB_one ytd) (by omega) ?_;intro p9 w9 own9 hg9 hat9;rw[List.nil_append,Nat.zero_add] at own9;have hb9:Below w8.heap.size w8 w9:=(below_self w8).grown hg9 (Nat.le_refl _) (fun k e=>by cases e);have hs9:=hb9.size)
    | (at_builtin;have own7':=own7;refine wpList_append_oneAt 37 46 5 64 _ Tryz.underlying37 infoAn rfl (by decide) (by decide) rfl _ _ rfl w6.heap.size _ ytd.length ((ytd.zip us).flatMap encA) rfl (own7.alloc _) (by simp;omega) w7.heap.size (encA ((ta,tf),.slice pu ta.l.length cu)) rfl rfl (five_new _ _ _ _ _ _ _ _ rfl) (encA_one1 _ _ _ _) (by omega) ?_;intro t8 w8 own8 hg8 hat8;obtain⟨pT,cT,rfl,-⟩:=lw_form own8;have hb8:Below w6.heap.size w6 w8:=(hb7.alloc (by omega) _).grown hg8 (by simp;omega) (fun k e=>(own7.lt k e).1);have hb8w:=below_via hb6 hb8;have r4:=(hb8w.cell (p:=⟨g,j*5+4,none⟩) hgl).trans b4)
    | (at_builtin;have own6':=own6;refine wpList_append_row 37 46 5 64 _ Tryz.underlying37 infoAn rfl (by decide) (by decide) rfl _ _ rfl w6.heap.size _ 0 [] rfl (World.ownsRow_nil _ _ _ _) (Nat.le_refl _) 0 _ ytd.length ((ytd.zip us).flatMap encA) rfl (own_below dqb.1 hb6) dqo (by omega) ?_;intro t7 w7 own7 hg7 hat7;rw[List.nil_append,Nat.zero_add] at own7;have hb7:Below w6.heap.size w6 w7:=(below_self w6).grown hg7 (Nat.le_refl _) (fun k e=>by cases e);have hs7:=hb7.size;have hb67:=below_via hb6 hb7;have a0:=(hb67.cell (p:=⟨bx,0,none⟩) hbxl).trans (ab0 0 _ rfl);have a1:=(hb67.cell (p:=⟨bx,1,none⟩) hbxl).trans (ab0 1 _ rfl);have a2:=(hb67.cell (p:=⟨bx,2,none⟩) hbxl).trans (ab0 2 _ rfl);have a3:=(hb67.cell (p:=⟨bx,3,none⟩) hbxl).trans (ab0 3 _ rfl);have a4:=(hb67.cell (p:=⟨bx,4,none⟩) hbxl).trans (ab0 4 _ rfl))
    | (at_builtin;have own5':=own5;refine wpList_append_oneAt 36 33 7 72 _ Tryz.underlying36 infoCl rfl (by decide) (by decide) rfl _ _ rfl w4.heap.size _ ycs.length (ycs.flatMap encC) rfl (own5.alloc _) (by simp;omega) w5.heap.size (encC x.c) rfl rfl (seven_new _ _ _ _ _ _ _ _ _ _ rfl) (encC_one1 x.c) (by omega) ?_;intro s6 w6 own6 hg6 hat6;obtain⟨pS,cS,rfl,-⟩:=lw_form own6;have hb6:Below w4.heap.size w4 w6:=(hb5.alloc (by omega) _).grown hg6 (by simp;omega) (fun k e=>(own5.lt k e).1);have r3:=(hb6.cell (p:=⟨g,j*5+3,none⟩) hgl).trans b3)
    | (at_builtin;refine wpList_append_row 36 33 7 72 _ Tryz.underlying36 infoCl rfl (by decide) (by decide) rfl _ _ rfl w4.heap.size _ 0 [] rfl (World.ownsRow_nil _ _ _ _) (Nat.le_refl _) 0 _ ycs.length (ycs.flatMap encC) rfl dqa.1 (encC_one ycs) (by omega) ?_;intro s5 w5 own5 hg5 hat5;rw[List.nil_append,Nat.zero_add] at own5;have hb5:Below w4.heap.size w4 w5:=(below_self w4).grown hg5 (Nat.le_refl _) (fun k e=>by cases e);have hs5:=hb5.size;have sb5:=sb4.step hb5;have y3:=sb5 3 _ rfl;have y4:=sb5 4 _ rfl;have y5:=sb5 5 _ rfl;have y6:=sb5 6 _ rfl;have y7:=sb5 7 _ rfl;have y8:=sb5 8 _ rfl;have y9:=sb5 9 _ rfl))
   have hb610:Below w6.heap.size w6 w10:=below_via hb8 hb10
   have ts5:=ts4.freeze V hball
   have hs10:=hb10.size
   have hs8:=hb8.size
   have hs6:=hb6.size
   have hDq:DtOk (Kn X4 w4 w10) w10 ⟨⟨x.who,yn,ycs ++ [x.c],ytd ++ [(ta,tf)],yow⟩,.slice pS (ycs.length+1) cS,.slice pT (ytd.length+1) cT,.slice pE (ytd.length+1) cE,us ++ [.slice pu ta.l.length cu]⟩:=by
    have hum:us.length=ytd.length:=dq.m
    refine⟨⟨?_,fun i hi=>?_⟩,⟨?_,fun i hi=>?_⟩,⟨?_,fun i hi=>?_⟩,fun i t u h1 h2=>?_,?_,?_,?_⟩
    ·have:=ownMono (Nat.zero_le _) (own_below own6 hb610)
     simpa using this
    ·exact .inr ⟨(op_lt own6 hi).1,Nat.lt_of_lt_of_le (op_lt own6 hi).2 hb610.size⟩
    ·have:=ownMono (Nat.zero_le _) (own_below own8 hb10)
     show w10.ownsRow 0 _ 5 _ (ytd ++ [(ta,tf)]).length (((ytd ++ [(ta,tf)]).zip (us ++ [.slice pu ta.l.length cu])).flatMap encA)
     rw[List.zip_append hum.symm]
     simpa using this
    ·have:=op_lt own8 hi
     exact .inr ⟨by omega,by omega⟩
    ·have:=ownMono (Nat.zero_le _) own10
     show w10.ownsRow 0 _ 1 _ (ytd ++ [(ta,tf)]).length ((ytd ++ [(ta,tf)]).map encB)
     rw[List.map_append,List.map_cons,List.map_nil,hbv.out,List.length_append]
     exact this
    ·have:=op_lt own10 hi
     exact .inr ⟨by omega,this.2⟩
    ·simp only at h1 h2
     have hF:Fz (Kn X4 w4 w10) w10 31 2 (.slice pu ta.l.length cu) ta.l.length (pfV ta.l):=fz4.but (E:=fun _=>False) (.below hball) (fun _ _=>id) (fun _ _ g=>.inl g)
     rw[List.getElem?_append] at h1 h2
     rw[hum] at h2
     split at h1
     ·rename_i c
      rw[if_pos c] at h2
      exact (dq.u i t u h1 h2).but (E:=fun _=>False) (.below hball) (fun _ _=>id) (fun _ _ g=>.inl g)
     ·rename_i c
      rw[if_neg c] at h2
      have h0:i - ytd.length=0:=by
       have:=(List.getElem?_eq_some_iff.1 h1).1
       simp at this;omega
      rw[h0] at h1 h2
      simp at h1 h2
      rw[<- h1,<- h2]
      exact hF
    ·show (ycs ++ [x.c]).length<=1000
     rw[List.length_append];simp only [List.length_singleton];omega
    ·show (ytd ++ [(ta,tf)]).length=(ycs ++ [x.c]).length
     rw[List.length_append,List.length_append,htd.out];rfl
    ·show (us ++ [_]).length=(ytd ++ [(ta,tf)]).length
     rw[List.length_append,List.length_append,hum];rfl
   have ts6:=ts5.put V en (x:=⟨x.who,yn,ycs ++ [x.c],ytd ++ [(ta,tf)],yow⟩) (us:=us ++ [.slice pu ta.l.length cu]) hy rfl rfl hDq
   refine hQ (by first|exact .inl rfl|exact .inr rfl) (by rw[kl]) ?_ ts6
   rw[List.map_set]
   exact sx2
  ·skip
   rw[ee]
   have hbv:Hid (encB (ta,tf)=.bool true):=by
    show encB (ta,tf)=_
    unfold encB
    simp[e0]
   clear ee e0
   go_wp2_with (first
    | (at_builtin;have own9':=own9;refine wpList_append_oneAt 38 4 1 1 _ Tryz.underlying38 infoBo rfl (by decide) (by decide) rfl _ _ rfl w8.heap.size _ ytd.length (ytd.map encB) rfl (own9.alloc _) (by simp;omega) w9.heap.size [_] rfl rfl (op_cell _ _ _ _ rfl) bo_one (by omega) ?_;intro p10 w10 own10 hg10 hat10;obtain⟨pE,cE,rfl,-⟩:=lw_form own10;have hb10:Below w8.heap.size w8 w10:=(hb9.alloc (by omega) _).grown hg10 (by simp;omega) (fun k e=>(own9.lt k e).1);have hball:=below_via hb8w hb10;have q2:=(hball.cell (p:=⟨g,j*5+2,none⟩) hgl).trans b2;have q3:=(hball.cell (p:=⟨g,j*5+3,none⟩) hgl).trans b3;have q4:=(hball.cell (p:=⟨g,j*5+4,none⟩) hgl).trans b4;have f2:=(hball.frozen (p:=⟨g,j*5+2,none⟩) hgl).trans (hfr _);have f3:=(hball.frozen (p:=⟨g,j*5+3,none⟩) hgl).trans (hfr _);have f4:=(hball.frozen (p:=⟨g,j*5+4,none⟩) hgl).trans (hfr _))
    | (at_builtin;have own8':=own8;refine wpList_append_row 38 4 1 1 _ Tryz.underlying38 infoBo rfl (by decide) (by decide) rfl _ _ rfl w8.heap.size _ 0 [] rfl (World.ownsRow_nil _ _ _ _) (Nat.le_refl _) 0 _ ytd.length (ytd.map encB) rfl (own_below dqc.1 hb8w) (encB_one ytd) (by omega) ?_;intro p9 w9 own9 hg9 hat9;rw[List.nil_append,Nat.zero_add] at own9;have hb9:Below w8.heap.size w8 w9:=(below_self w8).grown hg9 (Nat.le_refl _) (fun k e=>by cases e);have hs9:=hb9.size)
    | (at_builtin;have own7':=own7;refine wpList_append_oneAt 37 46 5 64 _ Tryz.underlying37 infoAn rfl (by decide) (by decide) rfl _ _ rfl w6.heap.size _ ytd.length ((ytd.zip us).flatMap encA) rfl (own7.alloc _) (by simp;omega) w7.heap.size (encA ((ta,tf),.slice pu ta.l.length cu)) rfl rfl (five_new _ _ _ _ _ _ _ _ rfl) (encA_one1 _ _ _ _) (by omega) ?_;intro t8 w8 own8 hg8 hat8;obtain⟨pT,cT,rfl,-⟩:=lw_form own8;have hb8:Below w6.heap.size w6 w8:=(hb7.alloc (by omega) _).grown hg8 (by simp;omega) (fun k e=>(own7.lt k e).1);have hb8w:=below_via hb6 hb8;have r4:=(hb8w.cell (p:=⟨g,j*5+4,none⟩) hgl).trans b4)
    | (at_builtin;have own6':=own6;refine wpList_append_row 37 46 5 64 _ Tryz.underlying37 infoAn rfl (by decide) (by decide) rfl _ _ rfl w6.heap.size _ 0 [] rfl (World.ownsRow_nil _ _ _ _) (Nat.le_refl _) 0 _ ytd.length ((ytd.zip us).flatMap encA) rfl (own_below dqb.1 hb6) dqo (by omega) ?_;intro t7 w7 own7 hg7 hat7;rw[List.nil_append,Nat.zero_add] at own7;have hb7:Below w6.heap.size w6 w7:=(below_self w6).grown hg7 (Nat.le_refl _) (fun k e=>by cases e);have hs7:=hb7.size;have hb67:=below_via hb6 hb7;have a0:=(hb67.cell (p:=⟨bx,0,none⟩) hbxl).trans (ab0 0 _ rfl);have a1:=(hb67.cell (p:=⟨bx,1,none⟩) hbxl).trans (ab0 1 _ rfl);have a2:=(hb67.cell (p:=⟨bx,2,none⟩) hbxl).trans (ab0 2 _ rfl);have a3:=(hb67.cell (p:=⟨bx,3,none⟩) hbxl).trans (ab0 3 _ rfl);have a4:=(hb67.cell (p:=⟨bx,4,none⟩) hbxl).trans (ab0 4 _ rfl))
    | (at_builtin;have own5':=own5;refine wpList_append_oneAt 36 33 7 72 _ Tryz.underlying36 infoCl rfl (by decide) (by decide) rfl _ _ rfl w4.heap.size _ ycs.length (ycs.flatMap encC) rfl (own5.alloc _) (by simp;omega) w5.heap.size (encC x.c) rfl rfl (seven_new _ _ _ _ _ _ _ _ _ _ rfl) (encC_one1 x.c) (by omega) ?_;intro s6 w6 own6 hg6 hat6;obtain⟨pS,cS,rfl,-⟩:=lw_form own6;have hb6:Below w4.heap.size w4 w6:=(hb5.alloc (by omega) _).grown hg6 (by simp;omega) (fun k e=>(own5.lt k e).1);have r3:=(hb6.cell (p:=⟨g,j*5+3,none⟩) hgl).trans b3)
    | (at_builtin;refine wpList_append_row 36 33 7 72 _ Tryz.underlying36 infoCl rfl (by decide) (by decide) rfl _ _ rfl w4.heap.size _ 0 [] rfl (World.ownsRow_nil _ _ _ _) (Nat.le_refl _) 0 _ ycs.length (ycs.flatMap encC) rfl dqa.1 (encC_one ycs) (by omega) ?_;intro s5 w5 own5 hg5 hat5;rw[List.nil_append,Nat.zero_add] at own5;have hb5:Below w4.heap.size w4 w5:=(below_self w4).grown hg5 (Nat.le_refl _) (fun k e=>by cases e);have hs5:=hb5.size;have sb5:=sb4.step hb5;have y3:=sb5 3 _ rfl;have y4:=sb5 4 _ rfl;have y5:=sb5 5 _ rfl;have y6:=sb5 6 _ rfl;have y7:=sb5 7 _ rfl;have y8:=sb5 8 _ rfl;have y9:=sb5 9 _ rfl))
   have hb610:Below w6.heap.size w6 w10:=below_via hb8 hb10
   have ts5:=ts4.freeze V hball
   have hs10:=hb10.size
   have hs8:=hb8.size
   have hs6:=hb6.size
   have hDq:DtOk (Kn X4 w4 w10) w10 ⟨⟨x.who,yn,ycs ++ [x.c],ytd ++ [(ta,tf)],yow⟩,.slice pS (ycs.length+1) cS,.slice pT (ytd.length+1) cT,.slice pE (ytd.length+1) cE,us ++ [.slice pu ta.l.length cu]⟩:=by
    have hum:us.length=ytd.length:=dq.m
    refine⟨⟨?_,fun i hi=>?_⟩,⟨?_,fun i hi=>?_⟩,⟨?_,fun i hi=>?_⟩,fun i t u h1 h2=>?_,?_,?_,?_⟩
    ·have:=ownMono (Nat.zero_le _) (own_below own6 hb610)
     simpa using this
    ·exact .inr ⟨(op_lt own6 hi).1,Nat.lt_of_lt_of_le (op_lt own6 hi).2 hb610.size⟩
    ·have:=ownMono (Nat.zero_le _) (own_below own8 hb10)
     show w10.ownsRow 0 _ 5 _ (ytd ++ [(ta,tf)]).length (((ytd ++ [(ta,tf)]).zip (us ++ [.slice pu ta.l.length cu])).flatMap encA)
     rw[List.zip_append hum.symm]
     simpa using this
    ·have:=op_lt own8 hi
     exact .inr ⟨by omega,by omega⟩
    ·have:=ownMono (Nat.zero_le _) own10
     show w10.ownsRow 0 _ 1 _ (ytd ++ [(ta,tf)]).length ((ytd ++ [(ta,tf)]).map encB)
     rw[List.map_append,List.map_cons,List.map_nil,hbv.out,List.length_append]
     exact this
    ·have:=op_lt own10 hi
     exact .inr ⟨by omega,this.2⟩
    ·simp only at h1 h2
     have hF:Fz (Kn X4 w4 w10) w10 31 2 (.slice pu ta.l.length cu) ta.l.length (pfV ta.l):=fz4.but (E:=fun _=>False) (.below hball) (fun _ _=>id) (fun _ _ g=>.inl g)
     rw[List.getElem?_append] at h1 h2
     rw[hum] at h2
     split at h1
     ·rename_i c
      rw[if_pos c] at h2
      exact (dq.u i t u h1 h2).but (E:=fun _=>False) (.below hball) (fun _ _=>id) (fun _ _ g=>.inl g)
     ·rename_i c
      rw[if_neg c] at h2
      have h0:i - ytd.length=0:=by
       have:=(List.getElem?_eq_some_iff.1 h1).1
       simp at this;omega
      rw[h0] at h1 h2
      simp at h1 h2
      rw[<- h1,<- h2]
      exact hF
    ·show (ycs ++ [x.c]).length<=1000
     rw[List.length_append];simp only [List.length_singleton];omega
    ·show (ytd ++ [(ta,tf)]).length=(ycs ++ [x.c]).length
     rw[List.length_append,List.length_append,htd.out];rfl
    ·show (us ++ [_]).length=(ytd ++ [(ta,tf)]).length
     rw[List.length_append,List.length_append,hum];rfl
   have ts6:=ts5.put V en (x:=⟨x.who,yn,ycs ++ [x.c],ytd ++ [(ta,tf)],yow⟩) (us:=us ++ [.slice pu ta.l.length cu]) hy rfl rfl hDq
   refine hQ (by first|exact .inl rfl|exact .inr rfl) (by rw[kl]) ?_ ts6
   rw[List.map_set]
   exact sx2
end Go.Proofs.YtmghmpclmphccaaGreatDoor.Pa
