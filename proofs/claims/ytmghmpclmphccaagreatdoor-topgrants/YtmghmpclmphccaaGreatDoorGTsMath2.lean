/- -/
import Derived.Test.YtmghmpclmphccaaGreatDoorGTsMath
import Derived.Test.YtmghmpclmphccaaGreatDoorGHrMath2
set_option maxHeartbeats 8000000
set_option maxRecDepth 100000
namespace Go.Proofs.YtmghmpclmphccaaGreatDoor.Pa
open Go.RowKit Vs
section
variable {k:Nat}{d:Dk}{S:Ses}
theorem QM:∀{S:Ses} {j:Nat} {x:ByteArray} {i:Int},(S.map Prod.fst).Nodup->S[j]? = some (x,i)->sId S x=some i
 | y :: r,0,x,i,_,h=>by
  have:y=(x,i):=by simpa using h
  subst this
  exact if_pos rfl
 | y :: r,j+1,x,i,hn,h=>by
  rw[List.map_cons,List.nodup_cons] at hn
  have h':r[j]? = some (x,i):=by simpa using h
  have hm:x∈r.map Prod.fst:=List.mem_map.2 ⟨(x,i),List.mem_of_getElem? h',rfl⟩
  have hne:¬x=y.1:=fun e=>hn.1 (e ▸ hm)
  rw[sId,if_neg hne]
  exact QM hn.2 h'
theorem Kr:∀{S:Ses} {x:ByteArray},x ∉ S.map Prod.fst->iQ S x=S
 | [],_,_=>rfl
 | y :: r,x,h=>by
  rw[List.map_cons,List.mem_cons] at h
  rw[iQ,if_neg (fun e=>h (.inl e)),Kr (fun e=>h (.inr e))]
theorem UW:∀{S:Ses} {j:Nat} {x:ByteArray} {i:Int},(S.map Prod.fst).Nodup->S[j]? = some (x,i)->iQ S x=S.eraseIdx j
 | y :: r,0,x,i,hn,h=>by
  have:y=(x,i):=by simpa using h
  subst this
  rw[List.map_cons,List.nodup_cons] at hn
  rw[iQ,if_pos rfl,Kr hn.1];rfl
 | y :: r,j+1,x,i,hn,h=>by
  rw[List.map_cons,List.nodup_cons] at hn
  have h':r[j]? = some (x,i):=by simpa using h
  have hm:x∈r.map Prod.fst:=List.mem_map.2 ⟨(x,i),List.mem_of_getElem? h',rfl⟩
  have hne:¬x=y.1:=fun e=>hn.1 (e ▸ hm)
  rw[iQ,if_neg hne,UW hn.2 h'];rfl
theorem Yc {who:ByteArray}(hf:hoF d S who=0):bgF d=0/\sId S who=none/\hoD d S who=bgD d/\hoS d S who=S ++ [(who,bgN d)]:=by
 have hf':=hf
 unfold hoF at hf
 by_cases c1:Bur.isN who.data.toList=true
 ·rw[if_pos c1] at hf
  by_cases c2:(sId S who).isSome=true
  ·rw[if_pos c2] at hf;cases hf
  ·rw[if_neg c2] at hf
   have c3:sId S who=none:=by simpa using c2
   exact⟨hf,c3,if_pos ⟨c1,c3⟩,if_pos hf'⟩
 ·rw[if_neg c1] at hf;cases hf
theorem VR {α β : Type}{a:List α}{b:List β}{P : α -> β -> Prop}(h:∀(j:Nat) (x : α) (o : β),a[j]? = some x->b[j]? = some o->P x o)(j:Nat):∀(i:Nat) (x : α) (o : β),(a.eraseIdx j)[i]? = some x->(b.eraseIdx j)[i]? = some o->P x o:=by
 intro i x o hx ho
 rw[List.getElem?_eraseIdx] at hx ho
 split at hx
 ·rename_i c
  rw[if_pos c] at ho
  exact h i x o hx ho
 ·rename_i c
  rw[if_neg c] at ho
  exact h (i+1) x o hx ho
end
theorem Si {k v:ByteArray}(h1:1<=k.size)(h2:k.size<=24)(h3:v.size<=12):shF k v=0:=if_neg (by omega)
theorem Ve {vs:List Ver}{s:Int}{own:List Chg}(hr:dP own)(c:Chg)(k:ByteArray):aT vs s (bI own c) k=if k=c.k then (if c.g=true then none else some c.v) else aT vs s own k:=by
 unfold aT
 rw[PV hr]
 by_cases e:k=c.k
 ·rw[if_pos e,if_pos e]
 ·rw[if_neg e,if_neg e]
theorem Ud {vs:List Ver}{top s n:Int}(hT:OkT vs top)(hs:top<=s)(hn:s<n){own:List Chg}(hr:dP own)(k:ByteArray):bG (vs++own.map (fF n)) k n=aT vs s own k:=by
 have hv:vs.filter (hit k n)=vs.filter (hit k s):=by
  refine List.filter_congr (fun x hx=>?_)
  have:=(hT.each x hx).2
  unfold hit
  rw[decide_eq_true (show x.n<=n by omega),decide_eq_true (show x.n<=s by omega)]
 unfold bG see aT
 rw[List.filter_append,List.getLast?_append,hv]
 cases e:bP own k with
 | none=>
  have:(own.map (fF n)).filter (hit k n)=[]:=by
   refine List.filter_eq_nil_iff.2 (fun x hx=>?_)
   obtain⟨c,hc,rfl⟩:=List.mem_map.1 hx
   have:=iV.1 e c hc
   simp[hit,fF,this]
  rw[this]
  rfl
 | some c=>
  obtain⟨e1,e2⟩:=bZ e
  have hm:fF n c∈(own.map (fF n)).filter (hit k n):=List.mem_filter.2 ⟨List.mem_map.2 ⟨c,e1,rfl⟩,by simp[hit,fF,e2]⟩
  have hl:((own.map (fF n)).filter (hit k n)).getLast? = some (fF n c):=by
   cases q:((own.map (fF n)).filter (hit k n)).getLast? with
   | none=>rw[List.getLast?_eq_none_iff] at q;rw[q] at hm;simp at hm
   | some y=>
    obtain⟨m1,m2⟩:=List.mem_filter.1 (List.mem_of_getLast? q)
    obtain⟨c',hc',rfl⟩:=List.mem_map.1 m1
    have ek:c'.k=k:=by
     have:(decide (c'.k=k)&&decide ((n:Int)<=n))=true:=m2
     simpa using this
    rw[DF hr hc' e1 (ek.trans e2.symm)]
  rw[hl]
  rfl
theorem abh {k:ByteArray}{K:ByteArray->Bool->Pg}{vs:List Ver}{o:Ox}(hk:shF k ByteArray.empty=0)(ha:o.asked<100) :
  loR (asks k K) vs o=match aT vs o.sees o.own k with
   | none=>loR (K ByteArray.empty false) vs (dN o k)
   | some v=>loR (K v true) vs (dN o k):=by
 have hn:¬100<=o.asked:=by omega
 show loR ((fun v f=>if f=4 then K ByteArray.empty false else if f=0 then K v true else err f) (lgS vs o k) (lgF vs o k)) vs (lgO o k)=_
 unfold lgS lgF lgO
 simp only [hk,if_true,hn,if_false]
 cases aT vs o.sees o.own k <;> simp
theorem acN {n:ByteArray}{K:List Lot->Pg}{vs:List Ver}{o:Ox}(ha:o.asked<100):loR (allL n K) vs o=loR (K (lots (fJ vs o.sees o.own (loK 112 n) (heK 112 n)))) vs (iL o (loK 112 n) (heK 112 n)):=by
 have hn:¬100<=o.asked:=by omega
 show loR ((fun l f=>if f=0 then K (lots l) else err f) (lrS vs o (loK 112 n) (heK 112 n)) (lrF o)) vs (lrO o (loK 112 n) (heK 112 n))=_
 unfold lrS lrF lrO
 simp[hn]
theorem acM {n:ByteArray}{K:List Int->Pg}{vs:List Ver}{o:Ox}(ha:o.asked<100):loR (allA n K) vs o=loR (K (fG (fJ vs o.sees o.own (loK 97 n) (heK 97 n)))) vs (iL o (loK 97 n) (heK 97 n)):=by
 have hn:¬100<=o.asked:=by omega
 show loR ((fun l f=>if f=0 then K (fG l) else err f) (lrS vs o (loK 97 n) (heK 97 n)) (lrF o)) vs (lrO o (loK 97 n) (heK 97 n))=_
 unfold lrS lrF lrO
 simp[hn]
theorem zG:∀(l:List Chg) (c:Chg),(bI l c).length<=l.length+1
 | [],_=>Nat.le_refl _
 | x :: r,c=>by
  rw[bI]
  split
  ·simp
  ·split
   ·simp
   ·have:=zG r c
    simp only [List.length_cons]
    omega
def nx:ByteArray:=⟨#[120]⟩
def nw:ByteArray:=⟨#[110,101,119]⟩
theorem ql:Bur.isN nx.data.toList=true:=by decide
theorem abr {l m:List UInt8}(h:txt l=txt m):l=m:=by
 have:=congrArg (fun b:ByteArray=>b.data.toList) h
 simpa [txt] using this
theorem Tn (n:ByteArray)(a:Int)(p:Bur.Sp):kA n a≠kP n p:=fun h=>by
 have:=abr h
 simp[Bur.D6,Bur.rG] at this
structure Bt (m n:Nat)(o o':Ox):Prop where
 id:o'.id=o.id
 se:o'.sees=o.sees
 ask:o'.asked<=o.asked+m
 len:o'.own.length<=o.own.length+n
theorem agB {c:Cl}(h:clF c=0):shF (kN c.nm) ByteArray.empty=0:=Si (by rw[CP];omega) (by rw[CP];have:=(sG h).2.2;omega) (by decide)
theorem adL {c:Cl}(h:clF c=0)(p:Bur.Sp){v:ByteArray}(hv:v.size<=12):shF (kP c.nm p) v=0:=Si (by rw[zD];omega) (by rw[zD];have:=(sG h).2.2;omega) hv
theorem YS {c:Cl}(h:clF c=0)(a:Int){v:ByteArray}(hv:v.size<=12):shF (kA c.nm a) v=0:=Si (by rw[xR];omega) (by rw[xR];have:=(sG h).2.2;omega) hv
theorem afL {c:Cl}(h:clF c≠0)(vs:List Ver)(o:Ox):loR (doP c) vs o=(an0,clF c,o):=by
 unfold doP
 rw[if_neg h]
 rfl
theorem Nl {c:Cl}(h:c.what≠1):aN c false=err 4:=by simp[aN,h]
theorem aem {c:Cl}(h:c.what=2):aN c true=rF c:=by simp[aN,h]
theorem aeY {c:Cl}(h:c.what=3):aN c true=cO c:=by simp[aN,h]
theorem afe {c:Cl}(h:c.what=4):aN c true=bU c:=by simp[aN,h]
theorem ad9 {c:Cl}(h:c.what=5):aN c true=dU c:=by simp[aN,h]
theorem afV {c:Cl}(h:c.what=9):aN c true=fH c:=by simp[aN,h]
structure Sg (k:Nat)(d:Dk)(o:Ox):Prop where
 dp:Dp k d
 op1:d.op=[o]
 se:o.sees=d.last
 up:UpL d.lg
 ls:2*d.lg.ls.length<=k
theorem OL (b:ByteArray):txt b.data.toList=b:=by
 cases b
 simp[txt]
theorem afp {a:Int}(h:Bur.fault a 32=0):Bur.isA a=true:=by
 obtain⟨_,_,h1,h2,_⟩:=Bur.bn h
 unfold Bur.isA
 simp only [Bool.and_eq_true,decide_eq_true_eq]
 exact⟨h1,h2⟩
theorem zu {a:Int}(h0:0<=a)(h1:a<=4294967295):Bur.fault a 32=0:=by
 unfold Bur.fault
 have hA:Bur.isA a=true:=by unfold Bur.isA;simp only [Bool.and_eq_true,decide_eq_true_eq];exact⟨h0,h1⟩
 have h32:Bur.sz 32=1:=by decide
 rw[if_neg (by rw[hA];simp),h32,if_pos (by omega)]
theorem C9 {n:ByteArray}(h:Bur.isN n.data.toList=true):enB (kN n)=some (1,n.data.toList,(0,0)):=Vq h
theorem fQ {n:ByteArray}{p:Bur.Sp}(h:Bur.isN n.data.toList=true)(hf:Bur.fault p.1 p.2=0):enB (kP n p)=some (2,n.data.toList,p):=by
 unfold enB kP
 rw[gI]
 exact Bur.fQ h hf
theorem gJ {n:ByteArray}{a:Int}(h:Bur.isN n.data.toList=true)(hf:Bur.fault a 32=0):enB (kA n a)=some (3,n.data.toList,(a,32)):=by
 unfold enB kA
 rw[gI]
 exact Bur.gJ h hf
def xW (V:ByteArray->Option ByteArray)(k0 v:ByteArray):ByteArray->Option ByteArray:=fun k=>if k=k0 then some v else V k
def VX (V:ByteArray->Option ByteArray)(k0:ByteArray):ByteArray->Option ByteArray:=fun k=>if k=k0 then none else V k
theorem sD {V:ByteArray->Option ByteArray}{k0 v k:ByteArray}(h:(V k).isSome=true):(xW V k0 v k).isSome=true:=by
 unfold xW
 split
 ·rfl
 ·exact h
theorem NI {V:ByteArray->Option ByteArray}{k0 v:ByteArray}{e:Bur.En}(h:Ino V)(he:enB k0=some e)(hv:Bur.isN v.data.toList=true)(h1:e.1≠1->(V (txt (Bur.xZ e.2.1))).isSome=true)(h3:∀a,e=(3,e.2.1,(a,32)) -> ∃k' v' q,V k'=some v'/\enB k'=some (2,e.2.1,q)/\Bur.hs q a=true):Ino (xW V k0 v):=by
 have more:∀{n a},(∃k' v' q,V k'=some v'/\enB k'=some (2,n,q)/\Bur.hs q a=true) -> ∃k' v' q,xW V k0 v k'=some v'/\enB k'=some (2,n,q)/\Bur.hs q a=true:=by
  rintro n a ⟨k',v',q,z1,z2,z3⟩
  obtain⟨x,hx⟩:=Option.isSome_iff_exists.1 (sD (V:=V) (k0:=k0) (v:=v) (k:=k') (by rw[z1];rfl))
  exact⟨k',x,q,hx,z2,z3⟩
 refine⟨fun k x hx=>?_,fun k x e' hx he' hne=>?_,fun k x n a hx he'=>?_⟩
 ·unfold xW at hx
  split at hx
  ·rename_i q
   cases hx
   rw[q,he]
   exact⟨rfl,hv⟩
  ·exact h.key k x hx
 ·unfold xW at hx
  split at hx
  ·rename_i q
   rw[q,he] at he'
   cases he'
   exact sD (h1 hne)
  ·exact sD (h.net k x e' hx he' hne)
 ·unfold xW at hx
  split at hx
  ·rename_i q
   rw[q,he] at he'
   have hee:e=(3,n,(a,32)):=Option.some.inj he'
   have:=h3 a (by rw[hee])
   rw[hee] at this
   exact more this
  ·exact more (h.has k x n a hx he')
theorem UE {V:ByteArray->Option ByteArray}{k0:ByteArray}{e:Bur.En}(h:Ino V)(he:enB k0=some e)(h1:e.1≠1)(h2:∀q,e=(2,e.2.1,q) -> ∀k v a,V k=some v->enB k=some (3,e.2.1,(a,32))->Bur.hs q a=true -> ∃k' v' q',k'≠k0/\V k'=some v'/\enB k'=some (2,e.2.1,q')/\Bur.hs q' a=true):Ino (VX V k0):=by
 have old:∀{k x},VX V k0 k=some x->V k=some x/\k≠k0:=fun {k x} hx=>by
  unfold VX at hx
  split at hx
  ·cases hx
  ·rename_i q;exact⟨hx,q⟩
 have new:∀{k x},V k=some x->k≠k0->VX V k0 k=some x:=fun {k x} hx hk=>by
  unfold VX
  rw[if_neg hk]
  exact hx
 refine⟨fun k x hx=>h.key k x (old hx).1,fun k x e' hx he' hne=>?_,fun k x n a hx he'=>?_⟩
 ·obtain⟨y,hy⟩:=Option.isSome_iff_exists.1 (h.net k x e' (old hx).1 he' hne)
  rw[new hy (fun q=>by
   have:=Vq (zk he')
   rw[q,he] at this
   exact h1 (congrArg Prod.fst (Option.some.inj this)))]
  rfl
 ·obtain⟨k',v',q,z1,z2,z3⟩:=h.has k x n a (old hx).1 he'
  by_cases hk:k'=k0
  ·rw[hk,he] at z2
   have hee:e=(2,n,q):=Option.some.inj z2
   have hn:e.2.1=n:=by rw[hee]
   obtain⟨k2,v2,q2,y0,y1,y2,y3⟩:=h2 q (by rw[hee]) k x a (old hx).1 (by rw[hn];exact he') z3
   exact⟨k2,v2,q2,new y1 y0,by rw[<- hn];exact y2,y3⟩
  ·exact⟨k',v',q,new z1 hk,z2,z3⟩
structure Tin (vs:List Ver)(o:Ox):Prop where
 ris:dP o.own
 ino:Ino (aT vs o.sees o.own)
 cov:Cov o
theorem Cov.mono {o o':Ox}(h:Cov o)(ho:o'.own=o.own)(hk:∀k∈o.keys,k∈o'.keys)(hs:∀s∈o.spans,s∈o'.spans):Cov o':=
 ⟨fun c hc=>h.ent c (ho ▸ hc),fun c hc=>h.nd c (ho ▸ hc),fun c hc e he h1 hg=>hk _ (h.pp c (ho ▸ hc) e he h1 hg),fun c hc n q he hg=>(h.pd c (ho ▸ hc) n q he hg).imp (hs _) (hs _),fun c hc n q he hg=>hs _ (h.ap c (ho ▸ hc) n q he hg)⟩
theorem Tin.dN {vs:List Ver}{o:Ox}(h:Tin vs o)(k:ByteArray):Tin vs (dN o k):=⟨h.ris,h.ino,Cov.mono h.cov rfl (fun x hx=>by show x∈o.keys ++ [k];simp[hx]) (fun s hs=>hs)⟩
theorem Tin.iL {vs:List Ver}{o:Ox}(h:Tin vs o)(lo hi:ByteArray):Tin vs (iL o lo hi):=⟨h.ris,h.ino,Cov.mono h.cov rfl (fun x hx=>hx) (fun s hs=>by show s∈o.spans ++ [(lo,hi)];simp[hs])⟩
theorem Tin.ins {vs:List Ver}{o:Ox}(h:Tin vs o)(c:Chg)(hi:Ino (aT vs o.sees (bI o.own c)))(h1:(enB c.k).isSome=true)(h2:∀n q,enB c.k=some (1,n,q)->c.g=false)(h3:∀e,enB c.k=some e->e.1≠1->c.g=false->txt (Bur.xZ e.2.1)∈o.keys)
  (h4:∀n q,enB c.k=some (2,n,q)->c.g=true->(loK 112 (txt n),heK 112 (txt n))∈o.spans/\(loK 97 (txt n),heK 97 (txt n))∈o.spans) (h5:∀n q,enB c.k=some (3,n,q)->c.g=false->(loK 112 (txt n),heK 112 (txt n))∈o.spans):Tin vs { o with own:=bI o.own c }:=by
 have mem:∀{x},x∈bI o.own c->x=c \/ x∈o.own:=fun {x} hx=>((gQ h.ris).1 hx).imp id And.left
 refine⟨iZ h.ris,hi,⟨fun x hx=>?_,fun x hx=>?_,fun x hx=>?_,fun x hx=>?_,fun x hx=>?_⟩⟩
 ·rcases mem hx with rfl|g
  ·exact h1
  ·exact h.cov.ent x g
 ·rcases mem hx with rfl|g
  ·exact h2
  ·exact h.cov.nd x g
 ·rcases mem hx with rfl|g
  ·exact h3
  ·exact h.cov.pp x g
 ·rcases mem hx with rfl|g
  ·exact h4
  ·exact h.cov.pd x g
 ·rcases mem hx with rfl|g
  ·exact h5
  ·exact h.cov.ap x g
theorem xu {vs:List Ver}{o:Ox}(hr:dP o.own)(k v:ByteArray):aT vs o.sees (bI o.own ⟨k,v,false⟩)=xW (aT vs o.sees o.own) k v:=by
 funext x
 rw[Ve hr]
 rfl
theorem Tv {vs:List Ver}{o:Ox}(hr:dP o.own)(k:ByteArray):aT vs o.sees (bI o.own ⟨k,ByteArray.empty,true⟩)=VX (aT vs o.sees o.own) k:=by
 funext x
 rw[Ve hr]
 rfl
theorem xO {P:Ox->Prop}{k:ByteArray}{K:ByteArray->Bool->Pg}{vs:List Ver}{o:Ox}(hk:shF k ByteArray.empty=0)(h0:P o)(hn:aT vs o.sees o.own k=none->P (loR (K ByteArray.empty false) vs (dN o k)).2.2)(hy:∀v,aT vs o.sees o.own k=some v->P (loR (K v true) vs (dN o k)).2.2):P (loR (asks k K) vs o).2.2:=by
 by_cases ha:o.asked<100
 ·rw[abh hk ha]
  cases e:aT vs o.sees o.own k with
  | none=>exact hn e
  | some v=>exact hy v e
 ·have hn':100<=o.asked:=by omega
  have e:loR (asks k K) vs o=(an0,3,o):=by
   show loR ((fun v f=>if f=4 then K ByteArray.empty false else if f=0 then K v true else err f) (lgS vs o k) (lgF vs o k)) vs (lgO o k)=_
   unfold lgS lgF lgO
   simp only [hk,if_true,hn']
   rfl
  rw[e]
  exact h0
theorem xB {P:Ox->Prop}{n:ByteArray}{K:List Lot->Pg}{vs:List Ver}{o:Ox}(h0:P o)(h:P (loR (K (lots (fJ vs o.sees o.own (loK 112 n) (heK 112 n)))) vs (iL o (loK 112 n) (heK 112 n))).2.2):P (loR (allL n K) vs o).2.2:=by
 by_cases ha:o.asked<100
 ·rw[acN ha];exact h
 ·have hn':100<=o.asked:=by omega
  have e:loR (allL n K) vs o=(an0,3,o):=by
   show loR ((fun l f=>if f=0 then K (lots l) else err f) (lrS vs o (loK 112 n) (heK 112 n)) (lrF o)) vs (lrO o (loK 112 n) (heK 112 n))=_
   unfold lrS lrF lrO
   simp only [hn',if_true]
   rfl
  rw[e]
  exact h0
theorem TA {P:Ox->Prop}{n:ByteArray}{K:List Int->Pg}{vs:List Ver}{o:Ox}(h0:P o)(h:P (loR (K (fG (fJ vs o.sees o.own (loK 97 n) (heK 97 n)))) vs (iL o (loK 97 n) (heK 97 n))).2.2):P (loR (allA n K) vs o).2.2:=by
 by_cases ha:o.asked<100
 ·rw[acM ha];exact h
 ·have hn':100<=o.asked:=by omega
  have e:loR (allA n K) vs o=(an0,3,o):=by
   show loR ((fun l f=>if f=0 then K (fG l) else err f) (lrS vs o (loK 97 n) (heK 97 n)) (lrF o)) vs (lrO o (loK 97 n) (heK 97 n))=_
   unfold lrS lrF lrO
   simp only [hn',if_true]
   rfl
  rw[e]
  exact h0
theorem fP {P:Ox->Prop}{f:Int}{vs:List Ver}{o:Ox}(h0:P o):P (loR (err f) vs o).2.2:=h0
theorem zL {P:Ox->Prop}{k v:ByteArray}{a:An}{vs:List Ver}{o:Ox}(h0:P o)(h:P { o with own:=bI o.own ⟨k,v,false⟩ }):P (loR (puts k v a) vs o).2.2:=by
 have e:(loR (puts k v a) vs o).2.2=lcO o ⟨k,v,false⟩:=by
  show (loR ((fun f=>if f=0 then Pg.ret a 0 else err f) (lcF o ⟨k,v,false⟩)) vs (lcO o ⟨k,v,false⟩)).2.2=_
  simp only
  split <;> rfl
 rw[e]
 unfold lcO
 split
 ·split
  ·exact h0
  ·exact h
 ·exact h0
theorem PG {P:Ox->Prop}{k:ByteArray}{vs:List Ver}{o:Ox}(h0:P o)(h:P { o with own:=bI o.own ⟨k,ByteArray.empty,true⟩ }):P (loR (drops k) vs o).2.2:=by
 show P (lcO o ⟨k,ByteArray.empty,true⟩)
 unfold lcO
 split
 ·split
  ·exact h0
  ·exact h
 ·exact h0
theorem agJ {c:Cl}(h:clF c=0):Bur.isN c.nm.data.toList=true:=by
 unfold clF at h
 split at h
 ·cases h
 ·split at h
  ·cases h
  ·rename_i q
   simpa using q
theorem PL {c:Cl}(h:clF c=0)(hw:c.what=1 \/ c.what=2 \/ c.what=4 \/ c.what=6 \/ c.what=7):Bur.isN c.ow.data.toList=true:=by
 unfold clF at h
 split at h
 ·cases h
 ·split at h
  ·cases h
  ·split at h
   ·cases h
   ·rename_i q
    cases e:Bur.isN c.ow.data.toList
    ·exact absurd ⟨hw,e⟩ q
    ·rfl
theorem ahc {c:Cl}(h:clF c=0)(hw:c.what=2 \/ c.what=3 \/ c.what=6 \/ c.what=7):Bur.fault c.p.1 c.p.2=0:=by
 unfold clF at h
 split at h
 ·cases h
 ·split at h
  ·cases h
  ·split at h
   ·cases h
   ·first
     | exact h
     | (rw[if_pos hw] at h;exact h)
theorem agI {c:Cl}(h:clF c=0)(hw:c.what=4 \/ c.what=5 \/ c.what=9):Bur.fault c.ad 32=0:=by
 unfold clF at h
 split at h
 ·cases h
 ·split at h
  ·cases h
  ·split at h
   ·cases h
   ·first
     | exact h
     | (rw[if_pos hw] at h;exact h)
     | (rw[if_neg (by omega)] at h;exact h)
     | (rw[if_neg (by omega),if_pos hw] at h;exact h)
theorem LH {vs:List Ver}{top:Int}(hT:OkT vs top){o:Ox}(hr:dP o.own){n:ByteArray}(hn:Bur.isN n.data.toList=true){x:Lot}:x∈lots (fJ vs o.sees o.own (loK 112 n) (heK 112 n)) ↔ ∃k,aT vs o.sees o.own k=some x.2/\enB k=some (2,n.data.toList,x.1):=by
 obtain⟨_,hm⟩:=yX hT hr o.sees (loK 112 n) (heK 112 n)
 unfold lots
 rw[List.mem_filterMap]
 constructor
 ·rintro ⟨p,hp,hx⟩
  obtain⟨h1,h2⟩:=(hm p).1 hp
  cases e:Bur.pkR p.1.data.toList with
  | none=>rw[e] at hx;cases hx
  | some s=>
   rw[e] at hx
   have hx':(s,p.2)=x:=Option.some.inj hx
   subst hx'
   exact⟨p.1,h2,(BX hn).1 ⟨h1,e⟩⟩
 ·rintro ⟨k,h1,h2⟩
  obtain⟨g1,g2⟩:=(BX (n:=n) (k:=k) (q:=x.1) hn).2 h2
  refine⟨(k,x.2),(hm _).2 ⟨g1,h1⟩,?_⟩
  show (Bur.pkR k.data.toList).map (fun s=>(s,x.2))=some x
  rw[g2]
  rfl
theorem UA {vs:List Ver}{top:Int}(hT:OkT vs top){o:Ox}(hr:dP o.own){n:ByteArray}(hn:Bur.isN n.data.toList=true){k v:ByteArray}{a:Int}(h1:aT vs o.sees o.own k=some v)(h2:enB k=some (3,n.data.toList,(a,32))):a∈fG (fJ vs o.sees o.own (loK 97 n) (heK 97 n)):=by
 obtain⟨_,hm⟩:=yX hT hr o.sees (loK 97 n) (heK 97 n)
 obtain⟨g1,g2⟩:=(UL (n:=n) (k:=k) (a:=a) hn).2 h2
 unfold fG
 rw[List.mem_filterMap]
 exact⟨(k,v),(hm _).2 ⟨g1,h1⟩,g2⟩
theorem UD {vs:List Ver}{top:Int}(hT:OkT vs top){o:Ox}(hr:dP o.own){n:ByteArray}(hn:Bur.isN n.data.toList=true){a:Int}(ha:Bur.isA a=true){x:Lot}(hx:x∈hav (lots (fJ vs o.sees o.own (loK 112 n) (heK 112 n))) a):∃k v q,aT vs o.sees o.own k=some v/\enB k=some (2,n.data.toList,q)/\Bur.hs q a=true/\x=(q,v):=by
 unfold hav at hx
 obtain⟨h1,h2⟩:=List.mem_filter.1 hx
 obtain⟨k,g1,g2⟩:=(LH hT hr hn).1 h1
 have hf:Bur.fault x.1.1 x.1.2=0:=Bur.iq (Bur.qg g2).1
 rw[Bur.Rf ha hf] at h2
 exact⟨k,x.2,x.1,g1,g2,h2,rfl⟩
theorem aaO {k k':ByteArray}{n:List UInt8}{q:Bur.Sp}(h:enB k=some (2,n,q))(h':enB k'=some (2,n,q)):bl k k'=false:=by
 cases e:bl k k'
 ·rfl
 ·have hb:Op.bytesLess k.data.toList k'.data.toList=true:=by
   have:=e
   unfold bl at this
   rw[Lib.toList_data,Lib.toList_data] at this
   exact this
  have:=Bur.Py h h' hb
  unfold Bur.ahd at this
  simp at this
theorem aaI {l:List Pr}{n:List UInt8}{a:Int}{p:Bur.Sp}(hr:rises l)(hk:∀x∈l,∀q,Bur.pkR x.1.data.toList=some q->enB x.1=some (2,n,q))(hall:∀x∈hav (lots l) a,x.1=p):(hav (lots l) a).length<2:=by
 induction l with
 | nil=>simp[hav,lots]
 | cons x r ih=>
  obtain⟨r1,r2⟩:=List.pairwise_cons.1 hr
  have ihr:=fun h=>ih r2 (fun y hy=>hk y (by simp[hy])) h
  cases e:Bur.pkR x.1.data.toList with
  | none=>
   have el:lots (x :: r)=lots r:=by unfold lots;rw[List.filterMap_cons,e];rfl
   rw[el] at hall ⊢
   exact ihr hall
  | some q=>
   have el:lots (x :: r)=(q,x.2) :: lots r:=by unfold lots;rw[List.filterMap_cons,e];rfl
   rw[el] at hall ⊢
   by_cases hw:Bur.dQ a 32 q.1 q.2=true
   ·have eh:hav ((q,x.2) :: lots r) a=(q,x.2) :: hav (lots r) a:=by unfold hav;rw[List.filter_cons,if_pos hw]
    rw[eh] at hall ⊢
    have hq:q=p:=hall (q,x.2) (by simp)
    cases hz:hav (lots r) a with
    | nil=>simp
    | cons y t=>
     have hy:y∈hav (lots r) a:=by rw[hz];simp
     have hyp:=hall y (by rw[hz];simp)
     have hyl:y∈lots r:=(List.mem_filter.1 hy).1
     unfold lots at hyl
     obtain⟨z,z1,z2⟩:=List.mem_filterMap.1 hyl
     cases ez:Bur.pkR z.1.data.toList with
     | none=>rw[ez] at z2;cases z2
     | some s=>
      rw[ez] at z2
      have hs:(s,z.2)=y:=Option.some.inj z2
      have hsp:s=p:=by rw[<- hyp,<- hs]
      have k1:=hk x (by simp) q e
      have k2:=hk z (by simp[z1]) s ez
      rw[hq] at k1
      rw[hsp] at k2
      have:=r1 z z1
      rw[aaO k1 k2] at this
      cases this
   ·have eh:hav ((q,x.2) :: lots r) a=hav (lots r) a:=by unfold hav;rw[List.filter_cons,if_neg hw]
    rw[eh] at hall ⊢
    exact ihr hall
section
variable {vs:List Ver}{top:Int}{o:Ox}{c:Cl}
theorem J3 (t:Tin vs o){n v:ByteArray}{p:Bur.Sp}(hn:Bur.isN n.data.toList=true)(hf:Bur.fault p.1 p.2=0)(hv:Bur.isN v.data.toList=true)(h1:(aT vs o.sees o.own (kN n)).isSome=true)(hk:kN n∈o.keys):Tin vs { o with own:=bI o.own ⟨kP n p,v,false⟩ }:=by
 have e:=fQ hn hf
 refine t.ins _ ?_ (Option.isSome_iff_exists.2 ⟨_,e⟩) (fun m q h=>rfl) (fun e' h _ _=>by rw[e] at h;cases h;exact hk) (fun m q h g=>by cases g) (fun m q h=>by rw[e] at h;cases h)
 rw[xu t.ris]
 exact NI t.ino e hv (fun _=>h1) (fun a h=>by cases h)
theorem Lu (t:Tin vs o){n v:ByteArray}{a:Int}(hn:Bur.isN n.data.toList=true)(hf:Bur.fault a 32=0)(hv:Bur.isN v.data.toList=true)(h1:(aT vs o.sees o.own (kN n)).isSome=true)(hk:kN n∈o.keys)(hs:(loK 112 n,heK 112 n)∈o.spans)(hh:∃k' v' q,aT vs o.sees o.own k'=some v'/\enB k'=some (2,n.data.toList,q)/\Bur.hs q a=true):Tin vs { o with own:=bI o.own ⟨kA n a,v,false⟩ }:=by
 have e:=gJ hn hf
 refine t.ins _ ?_ (Option.isSome_iff_exists.2 ⟨_,e⟩) (fun m q h=>rfl) (fun e' h _ _=>by rw[e] at h;cases h;exact hk) (fun m q h=>by rw[e] at h;cases h) (fun m q h _=>by rw[e] at h;cases h;rw[OL];exact hs)
 rw[xu t.ris]
 exact NI t.ino e hv (fun _=>h1) (fun b h=>by
  have:a=b:=congrArg (fun x:Bur.En=>x.2.2.1) h
  subst this
  exact hh)
theorem VE (t:Tin vs o){n:ByteArray}{a:Int}(hn:Bur.isN n.data.toList=true)(hf:Bur.fault a 32=0):Tin vs { o with own:=bI o.own ⟨kA n a,ByteArray.empty,true⟩ }:=by
 have e:=gJ hn hf
 refine t.ins _ ?_ (Option.isSome_iff_exists.2 ⟨_,e⟩) (fun m q h=>by rw[e] at h;cases h) (fun e' h _ g=>by cases g) (fun m q h=>by rw[e] at h;cases h) (fun m q h g=>by cases g)
 rw[Tv t.ris]
 exact UE t.ino e (show (3:Int)≠1 by decide) (fun q h=>by cases h)
theorem abm (t:Tin vs o){n v:ByteArray}(hn:Bur.isN n.data.toList=true)(hv:Bur.isN v.data.toList=true):Tin vs { o with own:=bI o.own ⟨kN n,v,false⟩ }:=by
 have e:=C9 hn
 refine t.ins _ ?_ (Option.isSome_iff_exists.2 ⟨_,e⟩) (fun m q h=>rfl) (fun e' h h1 _=>by rw[e] at h;cases h;exact absurd rfl h1) (fun m q h=>by rw[e] at h;cases h) (fun m q h=>by rw[e] at h;cases h)
 rw[xu t.ris]
 exact NI t.ino e hv (fun h=>absurd rfl h) (fun a h=>by cases h)
theorem VP (hT:OkT vs top)(t:Tin vs o){n:ByteArray}{p:Bur.Sp}(hn:Bur.isN n.data.toList=true)(hf:Bur.fault p.1 p.2=0)(s1:(loK 112 n,heK 112 n)∈o.spans)(s2:(loK 97 n,heK 97 n)∈o.spans)
  (htk:tkF p (lots (fJ vs o.sees o.own (loK 112 n) (heK 112 n))) (fG (fJ vs o.sees o.own (loK 97 n) (heK 97 n)))=false):Tin vs { o with own:=bI o.own ⟨kP n p,ByteArray.empty,true⟩ }:=by
 have e:=fQ hn hf
 refine t.ins _ ?_ (Option.isSome_iff_exists.2 ⟨_,e⟩) (fun m q h=>by rw[e] at h;cases h) (fun e' h _ g=>by cases g) (fun m q h _=>by rw[e] at h;cases h;rw[OL];exact⟨s1,s2⟩) (fun m q h=>by rw[e] at h;cases h)
 rw[Tv t.ris]
 refine UE t.ino e (show (2:Int)≠1 by decide) (fun q hq k v a h1 h2 h3=>?_)
 have hqp:p=q:=congrArg (fun x:Bur.En=>x.2.2) hq
 subst hqp
 have hA:Bur.isA a=true:=by
  obtain⟨b,e1,_,e3⟩:=Bur.qw h2
  have:a=b:=congrArg Prod.fst e3
  rw[this]
  exact Bur.zH e1
 have hu:=UA hT t.ris hn h1 h2
 unfold tkF at htk
 rw[Bool.or_eq_false_iff,List.any_eq_false] at htk
 have hlen:=htk.2 a (List.mem_filter.2 ⟨hu,by rw[Bur.Rf hA hf];exact h3⟩)
 have hlen2:2<=(hav (lots (fJ vs o.sees o.own (loK 112 n) (heK 112 n))) a).length:=by
  have:¬(hav (lots (fJ vs o.sees o.own (loK 112 n) (heK 112 n))) a).length<2:=by simpa using hlen
  omega
 apply Classical.byContradiction
 intro hno
 have hall:∀x∈hav (lots (fJ vs o.sees o.own (loK 112 n) (heK 112 n))) a,x.1=p:=fun x hx=>by
  obtain⟨k',v',q',z1,z2,z3,z4⟩:=UD hT t.ris hn hA hx
  apply Classical.byContradiction
  intro hne
  refine hno ⟨k',v',q',fun g=>?_,z1,z2,z3⟩
  rw[g,e] at z2
  have:p=q':=congrArg (fun x:Bur.En=>x.2.2) (Option.some.inj z2)
  exact hne (by rw[z4,this])
 obtain⟨hrs,hmem⟩:=yX hT t.ris o.sees (loK 112 n) (heK 112 n)
 exact absurd (aaI hrs (fun x hx q hq=>(BX (n:=n) (k:=x.1) (q:=q) hn).1 ⟨((hmem x).1 hx).1,hq⟩) hall) (by omega)
end
end Go.Proofs.YtmghmpclmphccaaGreatDoor.Pa
namespace Bur
theorem ahV {p:Sp}{l:List Sp}{n:Int}(h:fsF p l n=0):fault (fsS p l n).1 (fsS p l n).2=0:=by
 have hs:fsS p l n=((fsp p l n).getD 0,n):=if_pos h
 unfold fsF at h
 split at h
 ·rename_i e
  obtain⟨h0,n0,n1⟩:=DZ e
  rw[hs]
  cases hx:fsp p l n with
  | none=>rw[hx] at h;cases h
  | some a=>exact ((BZ (yC h0).1 n0 n1 _).1 (O6 (yC h0).1 n0 n1 hx).1).1
 ·contradiction
theorem agQ {p:Sp}{u:List Int}(h:nxF p u=0):fault (nxS p u) 32=0/\hs p (nxS p u)=true:=by
 have h2:=ZA h
 refine⟨Go.Proofs.YtmghmpclmphccaaGreatDoor.Pa.zu h2.1 h2.2,?_⟩
 unfold nxF at h
 split at h
 ·rename_i e
  obtain⟨hp,_,_⟩:=zZ e
  rw[nxS,if_pos e]
  cases hx:nxt p u with
  | none=>rw[hx] at h;simp at h
  | some a=>
   obtain⟨a1,a2,_⟩:=ED hp hx
   show (decide (p.1<=a)&&decide (a<=p.1+sz p.2 - 1))=true
   unfold usa at a1 a2
   rw[Bool.and_eq_true,decide_eq_true_eq,decide_eq_true_eq]
   split at a1
   ·rename_i q
    rw[if_pos q] at a2
    exact⟨a1,a2⟩
   ·rename_i q
    rw[if_neg q] at a2
    have a1':p.1+1<=a:=a1
    have a2':a<=p.1+sz p.2 - 2:=a2
    exact⟨by omega,by omega⟩
 ·contradiction
end Bur
namespace Go.Proofs.YtmghmpclmphccaaGreatDoor.Pa
open Go.RowKit Vs
theorem Xm {c:Cl}(h:c.what=6):aN c true=aV c:=by simp[aN,h]
theorem Z4 {c:Cl}(h:c.what=7):aN c true=aX c:=by simp[aN,h]
theorem ae6 {c:Cl}(h:c.what=8):aN c true=fE c:=by simp[aN,h]
theorem agy {vs:List Ver}{top:Int}(hT:OkT vs top){o:Ox}(t:Tin vs o)(c:Cl):Tin vs (loR (doP c) vs o).2.2:=by
 by_cases hc:clF c=0
 ·unfold doP
  rw[if_pos hc,zJ]
  have hn:=agJ hc
  obtain⟨w1,w9,_⟩:=sG hc
  have t1:=t.dN (kN c.nm)
  have hk:kN c.nm∈(dN o (kN c.nm)).keys:=by show kN c.nm∈o.keys ++ [kN c.nm];simp
  refine xO (P:=Tin vs) (agB hc) t (fun _=>?_) (fun v hv=>?_)
  ·by_cases h1:c.what=1
   ·rw[show aN c false=puts (kN c.nm) c.ow an0 by simp[aN,h1,XY]]
    exact zL (P:=Tin vs) t1 (abm t1 hn (PL hc (.inl h1)))
   ·rw[Nl h1]
    exact fP (P:=Tin vs) t1
  ·have hN:(aT vs (dN o (kN c.nm)).sees (dN o (kN c.nm)).own (kN c.nm)).isSome=true:=by
    have:aT vs (dN o (kN c.nm)).sees (dN o (kN c.nm)).own (kN c.nm)=some v:=hv
    rw[this];rfl
   generalize dN o (kN c.nm)=o1 at t1 hk hN ⊢
   by_cases h1:c.what=1
   ·rw[show aN c true=err 6 by simp[aN,h1,XY]]
    exact fP (P:=Tin vs) t1
   by_cases h2:c.what=2
   ·rw[aem h2]
    unfold rF
    refine xO (P:=Tin vs) (adL hc _ (by decide)) t1 (fun _=>?_) (fun v _=>?_)
    ·rw[if_neg (by decide)]
     exact zL (P:=Tin vs) (t1.dN _) (J3 (t1.dN _) hn (ahc hc (.inl h2)) (PL hc (.inr (.inl h2))) hN (by show kN c.nm∈o1.keys++_;simp[hk]))
    ·rw[if_pos rfl]
     exact fP (P:=Tin vs) (t1.dN _)
   by_cases h3:c.what=3
   ·rw[aeY h3]
    unfold cO
    refine xO (P:=Tin vs) (adL hc _ (by decide)) t1 (fun _=>?_) (fun v _=>?_)
    ·rw[if_neg (by decide)]
     exact fP (P:=Tin vs) (t1.dN _)
    ·rw[if_pos rfl]
     have t2:=t1.dN (kP c.nm c.p)
     generalize dN o1 (kP c.nm c.p)=o2 at t2 ⊢
     refine xB (P:=Tin vs) t2 (TA (P:=Tin vs) (t2.iL _ _) ?_)
     split
     ·exact fP (P:=Tin vs) ((t2.iL _ _).iL _ _)
     ·rename_i q
      refine PG (P:=Tin vs) ((t2.iL _ _).iL _ _) (VP hT ((t2.iL _ _).iL _ _) hn (ahc hc (.inr (.inl h3))) ?_ ?_ ?_)
      ·show _∈(o2.spans ++ [(loK 112 c.nm,heK 112 c.nm)]) ++ [(loK 97 c.nm,heK 97 c.nm)];simp
      ·show _∈(o2.spans ++ [(loK 112 c.nm,heK 112 c.nm)]) ++ [(loK 97 c.nm,heK 97 c.nm)];simp
      ·exact Bool.eq_false_iff.2 q
   by_cases h4:c.what=4
   ·rw[afe h4]
    unfold bU
    have hf:=agI hc (.inl h4)
    refine xB (P:=Tin vs) t1 ?_
    have t2:=t1.iL (loK 112 c.nm) (heK 112 c.nm)
    refine xO (P:=Tin vs) (YS hc _ (by decide)) t2 (fun _=>?_) (fun v _=>?_)
    ·split
     ·exact fP (P:=Tin vs) (t2.dN _)
     ·rename_i q
      rw[if_neg (by decide)]
      refine zL (P:=Tin vs) (t2.dN _) (Lu (t2.dN _) hn hf (PL hc (.inr (.inr (.inl h4)))) hN (by show kN c.nm∈o1.keys++_;simp[hk]) (by show _∈o1.spans ++ [(loK 112 c.nm,heK 112 c.nm)];simp) ?_)
      obtain⟨x,hx⟩:=List.exists_mem_of_ne_nil _ q
      obtain⟨k',v',q',z1,z2,z3,_⟩:=UD hT t1.ris hn (afp hf) hx
      exact⟨k',v',q',z1,z2,z3⟩
    ·split
     ·exact fP (P:=Tin vs) (t2.dN _)
     ·rw[if_pos rfl]
      exact fP (P:=Tin vs) (t2.dN _)
   by_cases h5:c.what=5
   ·rw[ad9 h5]
    unfold dU
    refine xO (P:=Tin vs) (YS hc _ (by decide)) t1 (fun _=>?_) (fun v _=>?_)
    ·rw[if_neg (by decide)]
     exact fP (P:=Tin vs) (t1.dN _)
    ·rw[if_pos rfl]
     exact PG (P:=Tin vs) (t1.dN _) (VE (t1.dN _) hn (agI hc (.inr (.inl h5))))
   by_cases h6:c.what=6
   ·rw[Xm h6]
    unfold aV rQ
    have t2:=t1.iL (loK 112 c.nm) (heK 112 c.nm)
    refine xB (P:=Tin vs) t1 ?_
    split
    ·simp only
     split
     ·rename_i q
      split
      ·exact fP (P:=Tin vs) t2
      ·exact zL (P:=Tin vs) t2 (J3 t2 hn (Bur.ahV q) (PL hc (.inr (.inr (.inr (.inl h6))))) hN hk)
     ·exact fP (P:=Tin vs) t2
    ·exact fP (P:=Tin vs) t2
   by_cases h7:c.what=7
   ·rw[Z4 h7]
    unfold aX rQ
    have t2:=t1.iL (loK 112 c.nm) (heK 112 c.nm)
    refine xB (P:=Tin vs) t1 ?_
    split
    ·rename_i qp
     refine TA (P:=Tin vs) t2 ?_
     have t3:=t2.iL (loK 97 c.nm) (heK 97 c.nm)
     split
     ·rename_i q
      obtain⟨n1,n2⟩:=Bur.agQ q
      refine zL (P:=Tin vs) t3 (Lu t3 hn n1 (PL hc (.inr (.inr (.inr (.inr h7))))) hN hk (by show _∈(o1.spans ++ [(loK 112 c.nm,heK 112 c.nm)]) ++ [(loK 97 c.nm,heK 97 c.nm)];simp) ?_)
      obtain⟨x,hx,hxp⟩:=List.mem_map.1 qp
      obtain⟨k',z1,z2⟩:=(LH hT t1.ris hn).1 hx
      rw[hxp] at z2
      exact⟨k',x.2,c.p,z1,z2,n2⟩
     ·exact fP (P:=Tin vs) t3
    ·exact fP (P:=Tin vs) t2
   by_cases h8:c.what=8
   ·rw[ae6 h8]
    unfold fE
    exact xB (P:=Tin vs) t1 (t1.iL _ _)
   ·rw[afV (by omega)]
    unfold fH
    refine xO (P:=Tin vs) (YS hc _ (by decide)) t1 (fun _=>?_) (fun v _=>?_)
    ·rw[if_neg (by decide)]
     refine xB (P:=Tin vs) (t1.dN _) ?_
     split
     ·exact fP (P:=Tin vs) ((t1.dN _).iL _ _)
     ·exact (t1.dN _).iL _ _
    ·rw[if_pos rfl]
     exact t1.dN _
 ·rw[afL hc]
  exact t
structure Hz (k:Nat)(d:Dk):Prop where
 dp:Dp k d
 vs:d.vs=tab d.lg.ls
 ord:∀j,j<=d.lg.ls.length->Ino (fun key=>bG (tab (d.lg.ls.take j)) key j)
 op:∀o∈d.op,Tin d.vs o
theorem Hz.view {k:Nat}{d:Dk}(h:Hz k d):Ino (fun key=>bG d.vs key d.last):=by
 have:=h.ord d.lg.ls.length (Nat.le_refl _)
 rw[List.take_length] at this
 rw[h.vs,h.dp.ok.last]
 exact this
theorem Hz.au {k:Nat}{d:Dk}(h:Hz k d):Bur.auP (iK d)=(0,0):=by
 obtain⟨h1,h2⟩:=qE h.dp.ok.tb d.last
 rw[rC]
 exact ahq h1 h2 h.view
theorem ZY {vs ws:List Ver}{o:Ox}(h:Tin vs o)(e:∀key,bG ws key o.sees=bG vs key o.sees):Tin ws o:=by
 have q:aT ws o.sees o.own=aT vs o.sees o.own:=funext (fun k=>by
  unfold aT
  cases bP o.own k with
  | none=>exact e k
  | some c=>rfl)
 exact⟨h.ris,by rw[q];exact h.ino,h.cov⟩
theorem YD:Ino (fun _=>none):=⟨fun k v h=>(by cases h),fun k v e h=>(by cases h),fun k v n a h=>(by cases h)⟩
theorem Hz.new (room:Int)(h0:0<=room)(h1:room<=100000):Hz 0 (dk0 room):=by
 refine⟨.new h0 h1,rfl,fun j hj=>?_,fun o ho=>by simp[dk0] at ho⟩
 have e:(dk0 room).lg.ls.take j=[]:=List.take_nil
 rw[e]
 exact YD
theorem Hz.more {k m:Nat}{d:Dk}(h:Hz k d)(hk:k<=m):Hz m d:=⟨⟨h.dp.ok,by have:=h.dp.wl;omega,by have:=h.dp.ids;omega,h.dp.spz⟩,h.vs,h.ord,h.op⟩
theorem Hz.bg {k:Nat}{d:Dk}(h:Hz k d):Hz (k+1) (bgD d):=by
 have dp:=h.dp.bg
 have hv:=h.view
 by_cases g:bgF d=0
 ·have e:bgD d={ d with ids:=d.ids+1,op:=d.op ++ [ox0 (d.ids+1) d.last] }:=if_pos g
  rw[e] at dp ⊢
  refine⟨dp,h.vs,h.ord,fun o ho=>?_⟩
  rcases List.mem_append.1 ho with q|q
  ·exact h.op o q
  ·rw[List.mem_singleton.1 q]
   refine⟨List.Pairwise.nil,hv,⟨fun c hc=>?_,fun c hc=>?_,fun c hc=>?_,fun c hc=>?_,fun c hc=>?_⟩⟩
   all_goals (exact absurd hc (by simp[ox0]))
 ·have e:bgD d=d:=if_neg g
  rw[e] at dp ⊢
  exact⟨dp,h.vs,h.ord,h.op⟩
theorem yU:∀(g:Pg) (d:Dk) (i:Int),opI d i=none->aH g d i=d
 | .ret _ _,_,_,_=>rfl
 | .get k K,d,i,h=>by
  have e:dgD d i k=d:=by unfold dgD;rw[h]
  show aH (K (dgS d i k) (dgF d i k)) (dgD d i k) i=d
  rw[e]
  exact yU _ d i h
 | .rng lo hi K,d,i,h=>by
  have e:drD d i lo hi=d:=by unfold drD;rw[h]
  show aH (K (drS d i lo hi) (drF d i)) (drD d i lo hi) i=d
  rw[e]
  exact yU _ d i h
 | .chg c K,d,i,h=>by
  have e:dcD d i c=d:=by unfold dcD;rw[h]
  show aH (K (dcF d i c)) (dcD d i c) i=d
  rw[e]
  exact yU _ d i h
theorem Hz.run {k:Nat}{d:Dk}(h:Hz k d)(c:Cl)(i:Int):Hz (k+1) (aH (doP c) d i):=by
 have dp:=agx h.dp c i
 cases e:opI d i with
 | none=>
  rw[yU _ d i e] at dp ⊢
  exact⟨dp,h.vs,h.ord,h.op⟩
 | some o=>
  obtain⟨_,_,r3⟩:=DI (doP c) d i o h.dp.ok.ids e
  rw[r3] at dp ⊢
  refine⟨dp,h.vs,h.ord,fun x hx=>?_⟩
  obtain⟨y,hy,rfl⟩:=List.mem_map.1 hx
  show Tin d.vs _
  split
  ·exact agy h.dp.ok.tb (h.op o (aS e).1) c
  ·exact h.op y hy
theorem Hz.del {k:Nat}{d:Dk}(h:Hz k d)(i:Int):Hz (k+1) (bT d i):=⟨h.dp.del i,h.vs,h.ord,fun o ho=>h.op o (AX ho)⟩
theorem Hz.lg {k:Nat}{d d':Dk}(h:Hz k d)(dp:Dp (k+1) d')(e1:d'.lg.ls=d.lg.ls)(e2:d'.vs=d.vs)(e3:∀o∈d'.op,o∈d.op):Hz (k+1) d':=⟨dp,by rw[e1,e2];exact h.vs,by rw[e1];exact h.ord,fun o ho=>by rw[e2];exact h.op o (e3 o ho)⟩
theorem Hz.cm {k:Nat}{d:Dk}(h:Hz k d)(i:Int):Hz (k+1) (cmD d i):=by
 have dp:=h.dp.cm i
 have ok:=h.dp.ok
 unfold cmD at dp ⊢
 cases e:opI d i with
 | none=>rw[e] at dp;exact h.lg dp rfl rfl (fun _ ho=>ho)
 | some o=>
  rw[e] at dp
  simp only at dp ⊢
  have ho:=(aS e).1
  by_cases hc:clash d.vs o=true
  ·rw[if_pos hc] at dp ⊢
   exact h.lg dp rfl rfl (fun _ hx=>AX hx)
  ·rw[if_neg hc] at dp ⊢
   by_cases he:o.own=[]
   ·rw[if_pos he] at dp ⊢
    exact h.lg dp rfl rfl (fun _ hx=>AX hx)
   ·rw[if_neg he] at dp ⊢
    by_cases ha:apF d.lg o.own=0
    ·rw[if_pos ha] at dp ⊢
     have els:(apG d.lg o.own).ls=d.lg.ls ++ [o.own]:=by rw[Vm,if_pos ha]
     have elast:d.last=d.lg.ls.length:=ok.last
     have evs:d.vs++o.own.map (fF (d.last+1))=tab (d.lg.ls ++ [o.own]):=by rw[TK,h.vs,elast]
     have hr:dP o.own:=(h.op o ho).ris
     have hs:=(ok.op o ho).s1
     have new:Ino (fun key=>bG (tab (d.lg.ls ++ [o.own])) key ((d.lg.ls.length+1:Nat):Int)):=by
      have q:=agl (b:=d.last) (Oj (Bool.eq_false_iff.2 hc) hs) h.view (h.op o ho).ino (h.op o ho).cov
      have e2:(fun key=>bG (tab (d.lg.ls ++ [o.own])) key ((d.lg.ls.length+1:Nat):Int))=aT d.vs d.last o.own:=funext (fun key=>by
       rw[<- evs,<- Ud ok.tb ok.tl (show d.last<d.last+1 by omega) hr key]
       congr 1
       rw[elast]
       omega)
      rw[e2]
      exact q
     refine⟨dp,?_,fun j hj=>?_,fun x hx=>?_⟩
     ·show d.vs++o.own.map (fF (d.last+1))=tab (apG d.lg o.own).ls
      rw[els,evs]
     ·have hj':j<=(d.lg.ls ++ [o.own]).length:=by rw[<- els];exact hj
      show Ino (fun key=>bG (tab ((apG d.lg o.own).ls.take j)) key j)
      rw[els]
      by_cases hl:j<=d.lg.ls.length
      ·rw[List.take_append_of_le_length hl]
       exact h.ord j hl
      ·have hj2:j=d.lg.ls.length+1:=by simp at hj';omega
       rw[List.take_of_length_le (by simp;omega),hj2]
       exact new
     ·show Tin (d.vs++o.own.map (fF (d.last+1))) x
      have hx':x∈d.op:=AX hx
      have sx:=(ok.op x hx').s1
      refine ZY (h.op x hx') (fun key=>OT (fun y hy=>?_))
      obtain⟨c,_,rfl⟩:=List.mem_map.1 hy
      show x.sees<d.last+1
      omega
    ·rw[if_neg ha] at dp ⊢
     exact h.lg dp (by show (apG d.lg o.own).ls=_;rw[Vm,if_neg ha]) rfl (fun _ hx=>AX hx)
theorem Hz.once {k:Nat}{d:Dk}(h:Hz k d)(c:Cl):Hz (k+3) (onD d c):=by
 unfold onD
 split
 ·split
  ·exact ((h.bg).run c (bgN d)).cm _
  ·exact ((h.bg).run c (bgN d)).del _
 ·exact h.bg.more (by omega)
def zs:ByteArray:=⟨#[122]⟩
section
variable {ls:List (List Chg)}{m n:Nat}{a:Dk}{o:Ox}{cs:List Cl}{td:List (An×Int)}
end
section
variable {k:Nat}{d:Dk}{S:Ses}
end
end Go.Proofs.YtmghmpclmphccaaGreatDoor.Pa
namespace Go.Proofs.YtmghmpclmphccaaGreatDoor.Pa
open Go.RowKit Go.Maps Vs
structure H1 (T:Td)(w0:World)(K:Nat->Prop)(w:World)(H:Nat)(d:Dk)(S:Ses):Prop where
 ex:∃G,Hl T w G H d S /\ ∀j,K j -> ¬G j
 kl:∀j,K j->j<w.heap.size
 old:∀j,j<w0.heap.size->K j
 bl:Below w0.heap.size w0 w
section
variable {T:Td}{w0 w w':World}{K:Nat->Prop}{H:Nat}{d:Dk}{S:Ses}
theorem H1.op {G:Nat->Prop}{d':Dk}{S':Ses}(h:H1 T w0 K w H d S)(hK:∀j,K j -> ¬G j)(hp:Hp T G H w w' d' S'):H1 T w0 K w' H d' S'/\But (fun j=>¬K j) w w':=by
 obtain⟨G',h1,n1,b1⟩:=hp
 have s:=b1.size
 refine⟨⟨⟨G',h1,fun j hj q=>?_⟩,fun j hj=>Nat.lt_of_lt_of_le (h.kl j hj) s,h.old,But.Qq h.bl b1 h.bl.size (fun i hi q=>hK i (h.old i hi) q)⟩,b1.mono (fun j _ hj q=>hK j q hj)⟩
 rcases n1 j q with g|g
 ·exact hK j hj g
 ·have:=h.kl j hj
  have:=g.1
  omega
theorem H1.step (V:aG T)(h:H1 T w0 K w H d S)(hb:Below w.heap.size w w'):H1 T w0 (fun j=>K j \/ (w.heap.size<=j/\j<w'.heap.size)) w' H d S:=by
 obtain⟨G,h1,h2⟩:=h.ex
 have s:=hb.size
 refine⟨⟨G,h1.step V hb,fun j hj q=>?_⟩,fun j hj=>?_,fun j hj=>.inl (h.old j hj),ak h.bl hb⟩
 ·rcases hj with g|g
  ·exact h2 j g q
  ·have:=h1.lt q
   have:=g.1
   omega
 ·rcases hj with g|g
  ·exact Nat.lt_of_lt_of_le (h.kl j g) s
  ·exact g.2
theorem H1.mono {K':Nat->Prop}(h:H1 T w0 K w H d S)(hk:∀j,K' j->K j)(ho:∀j,j<w0.heap.size->K' j):H1 T w0 K' w H d S:=by
 obtain⟨G,h1,h2⟩:=h.ex
 exact⟨⟨G,h1,fun j hj=>h2 j (hk j hj)⟩,fun j hj=>h.kl j (hk j hj),ho,h.bl⟩
theorem H1.same (V:aG T)(h:H1 T w0 K w H d S)(hb:Below w.heap.size w w'):H1 T w0 K w' H d S:=(h.step V hb).mono (fun _ hj=>.inl hj) h.old
theorem H1.en (h:H1 T w0 K w H d S):En w:=by
 obtain⟨G,h1,h2⟩:=h.ex
 exact h1.en
theorem H1.new (V:aG T)(room:Int)(w0 w:World)(K:Nat->Prop)(en:En w)(h0:0<=room)(h1:room<=100000)(kl:∀j,K j->j<w.heap.size)(old:∀j,j<w0.heap.size->K j)(bl:Below w0.heap.size w0 w) :
  Calls Tryz.prog 7 #[.int .i64 room] w fun e w'=>∃H,e=.returned (.tuple #[.pointer (some ⟨H,0,none⟩),.nilIface])/\H1 T w0 K w' H (dk0 room) []/\Below w.heap.size w w':=by
 refine (aa0 V room en h0 h1).mono ?_
 rintro e w' ⟨H,G,rfl,hl,lo,hb⟩
 exact⟨H,rfl,⟨⟨G,hl,fun j hj q=>by have:=kl j hj;have:=lo j q;omega⟩,fun j hj=>Nat.lt_of_lt_of_le (kl j hj) hb.size,old,ak bl hb⟩,hb⟩
theorem H1.once (V:aG T){k:Nat}(c:Cl)(h:H1 T w0 K w H d S)(dp:Dp k d)(hk:k<=800) :
  Calls Tryz.prog 16 #[.pointer (some ⟨H,0,none⟩),clV c] w fun e w'=>∃u,e=.returned (.tuple #[anV (onA d c) u,.int .i64 (onN d c),ev (onF d c)])/\w'.ownsRow w.heap.size 31 2 u (onA d c).l.length (pfV (onA d c).l)/\H1 T w0 K w' H (onD d c) S/\But (fun j=>¬K j) w w':=by
 obtain⟨G,h1,h2⟩:=h.ex
 refine (Yg V c h1 dp.ok (Nat.le_trans dp.wl hk) (by have:=dp.ids;omega) dp.spz).mono ?_
 rintro e w' ⟨u,rfl,row,hp⟩
 exact⟨u,rfl,row,h.op h2 hp⟩
theorem H1.open (V:aG T){k:Nat}(who:ByteArray)(h:H1 T w0 K w H d S)(dp:Dp k d)(hk:k<=800)(hw:who.size<=maxLen)(hS:S.length<=1000) :
  Calls Tryz.prog 8 #[.pointer (some ⟨H,0,none⟩),.string who] w fun e w'=>e=.returned (ev (hoF d S who))/\H1 T w0 K w' H (hoD d S who) (hoS d S who)/\But (fun j=>¬K j) w w':=by
 obtain⟨G,h1,h2⟩:=h.ex
 refine (XC V h1 dp.ok (dp.sm (by omega)) who hw hS).mono ?_
 rintro e w' ⟨rfl,hp⟩
 exact⟨rfl,h.op h2 hp⟩
theorem H1.ask (V:aG T){k:Nat}(who:ByteArray)(c:Cl)(h:H1 T w0 K w H d S)(dp:Dp k d)(hk:k<=800)(hw:who.size<=maxLen) :
  Calls Tryz.prog 11 #[.pointer (some ⟨H,0,none⟩),.string who,clV c] w fun e w'=>∃u,e=.returned (.tuple #[anV (haA d S who c) u,ev (haF d S who c)])/\w'.ownsRow w.heap.size 31 2 u (haA d S who c).l.length (pfV (haA d S who c).l)/\H1 T w0 (fun j=>K j \/ u.ownBlock=some j) w' H (haD d S who c) S/\But (fun j=>¬K j) w w':=by
 obtain⟨G,h1,h2⟩:=h.ex
 refine (acF V h1 dp.ok (dp.sm (by omega)) who hw c).mono ?_
 rintro e w' ⟨u,rfl,row,G',g1,g2,g3,g4⟩
 obtain⟨q1,q2⟩:=h.op h2 ⟨G',g1,g2,g3⟩
 have s:=g3.size
 refine⟨u,rfl,row,⟨⟨G',g1,fun j hj q=>?_⟩,fun j hj=>?_,fun j hj=>.inl (h.old j hj),q1.bl⟩,q2⟩
 ·rcases hj with g|g
  ·rcases g2 j q with z|z
   ·exact h2 j g z
   ·have:=h.kl j g
    have:=z.1
    omega
  ·exact g4 j g q
 ·rcases hj with g|g
  ·exact Nat.lt_of_lt_of_le (h.kl j g) s
  ·exact (row.lt j g).2
theorem H1.close (V:aG T){k:Nat}(who:ByteArray)(h:H1 T w0 K w H d S)(dp:Dp k d)(hk:k<=800)(hw:who.size<=maxLen) :
  Calls Tryz.prog 10 #[.pointer (some ⟨H,0,none⟩),.string who] w fun e w'=>e=.returned (.tuple #[.int .i64 (hcN d S who),ev (hcF d S who)])/\H1 T w0 K w' H (hcD d S who) (iQ S who)/\But (fun j=>¬K j) w w':=by
 obtain⟨G,h1,h2⟩:=h.ex
 refine (Wx V h1 dp.ok (dp.sm (by omega)) dp.spz who hw).mono ?_
 rintro e w' ⟨rfl,hp⟩
 exact⟨rfl,h.op h2 hp⟩
theorem H1.all (V:aG T){k:Nat}(h:H1 T w0 K w H d S)(dp:Dp k d)(hk:k<=800) :
  Calls Tryz.prog 15 #[.pointer (some ⟨H,0,none⟩)] w fun e w'=>∃(q:Option Addr) (cq:Nat),e=.returned (.slice q (iK d).length cq)/\(iK d).length<=cq/\JU (fun j=>w.heap.size<=j) w' q (iK d)/\Below w.heap.size w w':=by
 obtain⟨G,h1,h2⟩:=h.ex
 exact abX V h1 dp.ok (dp.sm (by omega))
end
theorem adh {k:Nat}{d:Dk}(h:Dp k d)(hk:k<=1000):(iK d).length<=1000:=by
 have h1:=ZK d
 have h2:=h.ok.len
 have h3:=h.wl
 unfold wt at h3
 omega
theorem WQ {d:Dk}(h:OkD d):∀x∈iK d,x.1.size<4294967281:=fun x hx=>by
 rw[rC] at hx
 obtain⟨y,hy,_,_⟩:=iW.1 (((qE h.tb d.last).2 x).1 hx)
 obtain⟨g1,g2,_⟩:=qG hy
 have:=(h.tb.each y g1).1
 have h24:=this.2.1
 rw[g2] at h24
 omega
section
variable {T:Td}{w0 w w':World}{K:Nat->Prop}{H:Nat}{d:Dk}{S:Ses}
theorem aa7 {k:Nat}(h:Hz k d)(who:ByteArray):Hz (k+1) (hoD d S who):=by
 unfold hoD
 split
 ·exact h.bg
 ·exact h.more (by omega)
theorem Yy {k:Nat}(h:Hz k d)(who:ByteArray):Hz (k+1) (hcD d S who):=by
 unfold hcD
 split
 ·exact h.more (by omega)
 ·exact h.cm _
theorem aeB {k:Nat}(h:Hz k d)(who:ByteArray)(c:Cl):Hz (k+1) (haD d S who c):=by
 unfold haD
 split
 ·exact h.more (by omega)
 ·exact h.run c _
theorem H1.mine (V:aG T){E:Nat->Prop}(en:En w0)(h:H1 T w0 K w H d S)(hb:But E w w')(hE:∀j,E j->K j)(hl:∀j,E j->w0.heap.size<=j):H1 T w0 (fun j=>K j \/ (w.heap.size<=j/\j<w'.heap.size)) w' H d S:=by
 obtain⟨G,h1,h2⟩:=h.ex
 have s:=hb.size
 refine⟨⟨G,h1.but V hb (fun j hj q=>h2 j (hE j q) hj) (h1.en.but hb (fun j hj q=>by have:=en.lt q;have:=hl j hj;omega)),fun j hj q=>?_⟩,fun j hj=>?_,fun j hj=>.inl (h.old j hj),But.Qq h.bl hb h.bl.size (fun i hi g=>by have:=hl i g;omega)⟩
 ·rcases hj with g|g
  ·exact h2 j g q
  ·have:=h1.lt q
   have:=g.1
   omega
 ·rcases hj with g|g
  ·exact Nat.lt_of_lt_of_le (h.kl j g) s
  ·exact g.2
end
def ca:Cl:=⟨1,⟨#[120]⟩,(0,0),0,0,⟨#[111]⟩⟩
def cc:Cl:=⟨2,⟨#[120]⟩,(256,24),0,0,⟨#[111]⟩⟩
def ce:Cl:=⟨7,⟨#[120]⟩,(256,24),0,0,⟨#[111]⟩⟩
def nxD (d:Dk)(c:Cl):Dk:=cmD (onX d c) (bgN d)
theorem na:bgF (dk0 1000)=0/\onG (dk0 1000) ca=0/\cmF (onX (dk0 1000) ca) (bgN (dk0 1000))=0:=by decide +kernel
theorem nc:bgF (nxD (dk0 1000) ca)=0/\onG (nxD (dk0 1000) ca) cc=0/\cmF (onX (nxD (dk0 1000) ca) cc) (bgN (nxD (dk0 1000) ca))=0:=by decide +kernel
theorem nf:bgF (nxD (nxD (dk0 1000) ca) cc)=0/\onG (nxD (nxD (dk0 1000) ca) cc) ce=0/\cmF (onX (nxD (nxD (dk0 1000) ca) cc) ce) (bgN (nxD (nxD (dk0 1000) ca) cc))=0/\cmN (onX (nxD (nxD (dk0 1000) ca) cc) ce) (bgN (nxD (nxD (dk0 1000) ca) cc))=3/\(aI (doP ce) (bgD (nxD (nxD (dk0 1000) ca) cc)) (bgN (nxD (nxD (dk0 1000) ca) cc))).ad=257:=by decide +kernel
theorem ady {k:Nat}{d:Dk}(c:Cl)(h:Dp k d):Dp (k+2) (nxD d c):=by
 obtain⟨o1,o2,o3,o4⟩:=BU c h.ok h.spz
 have:=h.wl
 have:=h.ids
 exact (Dp.mk (k:=k+1) o1 (by omega) (by omega) o4).cm (bgN d)
section
variable {T:Td}{w:World}{F:Nat->Prop}{B:Nat}{d:Dk}
theorem DK (V:aG T)(c:Cl){H M k:Nat}(ad n:Int)(h:Ds T w F B d)(dp:Dp k d)(hk:k<=800)(hh:Hh w H B M)(nH:¬F H)(g1:bgF d=0)(g2:onG d c=0)(g3:cmF (onX d c) (bgN d)=0)(ga:(aI (doP c) (bgD d) (bgN d)).ad=ad)(gn:cmN (onX d c) (bgN d)=n) :
  Calls Tryz.prog 16 #[.pointer (some ⟨H,0,none⟩),clV c] w fun e w'=>∃(p1 p2:Int) (ow:ByteArray) (pu:Option Addr) (m cu:Nat),e=.returned (.tuple #[.agg #[.int .i64 p1,.int .i64 p2,.int .i64 ad,.string ow,.slice pu m cu],.int .i64 n,.nilIface]) /\ ∃F',Ds T w' F' B (nxD d c)/\(∀j,F' j->Nw F w w' j)/\But F w w'/\Hh w' H B M /\ ¬F' H:=by
 refine (Oc V c h dp.ok (Nat.le_trans dp.wl hk) (by have:=dp.ids;omega) dp.spz hh nH g1 g2 g3).mono ?_
 rintro e w' ⟨u,rfl,row,rest⟩
 obtain⟨pu,cu,rfl⟩:=aA row
 rw[gn,<- ga]
 exact⟨_,_,_,_,_,_,rfl,rest⟩
theorem aeR (V:aG T)(en:En w) :
  Calls Tryz.prog 6 #[] w fun e w'=>e=.returned (.bool true)/\Below w.heap.size w w':=by
 have K0:=adT V 1000 en (by decide) (by decide)
 have da:=Dp.new (room:=1000) (by decide) (by decide)
 have db:=ady ca da
 have dc:=ady cc db
 have KA:=fun {w:World} {F:Nat->Prop} {B H M:Nat} (h:Ds T w F B (dk0 1000)) (hh:Hh w H B M) (nH:¬F H)=>DK V ca _ _ h da (by decide) hh nH na.1 na.2.1 na.2.2 rfl rfl
 have KC:=fun {w:World} {F:Nat->Prop} {B H M:Nat} (h:Ds T w F B (nxD (dk0 1000) ca)) (hh:Hh w H B M) (nH:¬F H)=>DK V cc _ _ h db (by decide) hh nH nc.1 nc.2.1 nc.2.2 rfl rfl
 have KE:=fun {w:World} {F:Nat->Prop} {B H M:Nat} (h:Ds T w F B (nxD (nxD (dk0 1000) ca) cc)) (hh:Hh w H B M) (nH:¬F H)=>DK V ce _ _ h dc (by decide) hh nH nf.1 nf.2.1 nf.2.2.1 nf.2.2.2.2 nf.2.2.2.1
 generalize nxD (nxD (nxD (dk0 1000) ca) cc) ce=x3 at KE
 generalize nxD (nxD (dk0 1000) ca) cc=x2 at KE KC dc
 generalize nxD (dk0 1000) ca=x1 at KC KA db dc
 generalize (aI (doP cc) (bgD x1) (bgN x1)).ad=ad2 at KC
 generalize cmN (onX x1 cc) (bgN x1)=nn2 at KC
 generalize (aI (doP ca) (bgD (dk0 1000)) (bgN (dk0 1000))).ad=ad1 at KA
 generalize cmN (onX (dk0 1000) ca) (bgN (dk0 1000))=nn1 at KA
 generalize dk0 1000=x0 at K0 KA da
 have lower:∀{wa wb:World} {F1 F2:Nat->Prop},(∀j,F1 j->w.heap.size<=j)->w.heap.size<=wa.heap.size->(∀j,F2 j->Nw F1 wa wb j) -> ∀j,F2 j->w.heap.size<=j:=fun a b c j hj=>(c j hj).elim (a j) (fun g=>Nat.le_trans b g.1)
 have under:∀{wa wb:World} {F1:Nat->Prop},Below w.heap.size w wa->But F1 wa wb->(∀j,F1 j->w.heap.size<=j)->Below w.heap.size w wb:=fun a b c=>But.Qq a b a.size (fun i hi q=>by have:=c i q;omega)
 go_enter Tryz.func6,Tryz.ntmps6
 go_wp2_with (first
  | (go_at_call 7;refine K0.mono ?_;clear K0;rintro e w1 ⟨H,B,M,F1,rfl,h1,hh1,-,n1,-,-,l1,-,-,b1⟩)
  | (go_at_call 16;refine (KA h1 hh1 n1).mono ?_;clear KA;rintro e w2 ⟨p1,p2,ow,pu,m,cu,rfl,F2,h2,nx2,bt2,hh2,n2⟩;have l2:=lower l1 b1.size nx2;have b2:=under b1 bt2 l1;clear h1 hh1 n1 l1 b1 bt2 nx2)
  | (go_at_call 16;refine (KC (h2.step V (aj (ah w2) _)) (hh2.step (aj (ah w2) _)) n2).mono ?_;clear KC;rintro e w3 ⟨p1',p2',ow',pu',m',cu',rfl,F3,h3,nx3,bt3,hh3,n3⟩;have l3:=lower l2 (ak b2 (aj (ah w2) _)).size nx3;have b3:=under (ak b2 (aj (ah w2) _)) bt3 l2;clear h2 hh2 n2 l2 b2 bt3 nx3)
  | (go_at_call 16;refine (KE (h3.step V (aj (ah w3) _)) (hh3.step (aj (ah w3) _)) n3).mono ?_;clear KE;rintro e w4 ⟨p1'',p2'',ow'',pu'',m'',cu'',rfl,F4,h4,nx4,bt4,hh4,n4⟩;have b4:=under (ak b3 (aj (ah w3) _)) bt4 l3;clear h3 hh3 n3 l3 b3 bt4 nx4))
 exact bodyPost_ret (v:=.bool true) (by simp[results,Tryz.results6,go_sem]) rfl ⟨rfl,by repeat (first|exact b4|exact ak b4 (aj (ah w4) _)|exact (ak b4 (aj (ah w4) _)).drew)⟩
end
