/- -/
import Derived.Test.YtmghmpclmphccaaGreatDoorGAdStrMath
import Derived.Test.YtmghmpclmphccaaGreatDoorGVsBase
namespace Vs
open Go
def enB (k:ByteArray):Option Bur.En:=Bur.enK k.data.toList
structure Ino (V:ByteArray->Option ByteArray):Prop where
 key:∀k v,V k=some v->(enB k).isSome=true/\Bur.isN v.data.toList=true
 net:∀k v e,V k=some v->enB k=some e->e.1≠1->(V (txt (Bur.xZ e.2.1))).isSome=true
 has:∀k v n a,V k=some v->enB k=some (3,n,(a,32)) -> ∃k' v' q,V k'=some v'/\enB k'=some (2,n,q)/\Bur.hs q a=true
theorem zk {k:ByteArray}{e:Bur.En}(h:enB k=some e):Bur.isN e.2.1=true:=by
 unfold enB at h
 unfold Bur.enK at h
 split at h
 ·rename_i q
  cases h
  unfold Bur.nkB at q
  simp only [Bool.and_eq_true] at q
  exact q.2
 ·split at h
  ·rename_i p q
   cases h
   unfold Bur.pkR at q
   split at q
   ·rename_i c
    have:=c.1
    unfold Bur.kcB at this
    simp only [Bool.and_eq_true] at this
    exact this.2.2
   ·cases q
  ·split at h
   ·rename_i p q
    cases h
    unfold Bur.raK at q
    split at q
    ·rename_i c
     have:=c.1
     unfold Bur.kcB at this
     simp only [Bool.and_eq_true] at this
     exact this.2.2
    ·cases q
   ·cases h
theorem Vq {n:List UInt8}(h:Bur.isN n=true):enB (txt (Bur.xZ n))=some (1,n,(0,0)):=by
 unfold enB
 rw[gI]
 exact Bur.C9 h
theorem Yz {k:Int}{n:List UInt8}{f:Bur.Sp->Bool}{p:Pr}{q:Bur.Sp}(h:enB p.1=some (k,n,q))(hf:f q=true):Bur.isE k n f (Bur.ek p)=true:=Bur.qP.2 ⟨q,h,hf⟩
theorem ahq {V:ByteArray->Option ByteArray}{L:List Pr}(hr:rises L)(hm:∀x,x∈L↔V x.1=some x.2)(h:Ino V):Bur.auP L=(0,0):=by
 have hp:∀p∈L,∀c,Bur.plE c p.1=0->Bur.auE L c p=0:=by
  intro p hpL c hc
  have hv:=(hm p).1 hpL
  obtain⟨k1,k2⟩:=h.key _ _ hv
  obtain⟨e,he⟩:=Option.isSome_iff_exists.1 k1
  have he':Bur.ek p=some e:=he
  unfold Bur.auE
  rw[if_pos hc,he']
  simp only
  rw[if_pos k2]
  by_cases h1:e.1=1
  ·rw[if_pos h1]
  ·rw[if_neg h1]
   obtain⟨v,hv2⟩:=Option.isSome_iff_exists.1 (h.net _ _ e hv he h1)
   have hN:Bur.xY L e.2.1=true:=List.any_eq_true.2 ⟨(txt (Bur.xZ e.2.1),v),(hm _).2 hv2,Yz (Vq (zk he)) rfl⟩
   rw[if_pos hN]
   by_cases h3:e.1=3
   ·obtain⟨a,ha,hn,hq⟩:=Bur.qw (l:=p.1.data.toList) (n:=e.2.1) (q:=e.2.2) (by
     have:Bur.enK p.1.data.toList=some e:=he
     rw[this,<- h3])
    have he3:enB p.1=some (3,e.2.1,(a,32)):=by rw[he,<- hq,<- h3]
    obtain⟨k',v',q,g1,g2,g3⟩:=h.has _ _ _ _ hv he3
    have hA:Bur.Pj L e.2.1 e.2.2.1=true:=by
     rw[hq]
     exact List.any_eq_true.2 ⟨(k',v'),(hm _).2 g1,Yz (f:=fun x=>Bur.hs x a) g2 g3⟩
    rw[if_neg (fun z=>by rw[hA] at z;exact absurd z.2 (by decide))]
   ·rw[if_neg (fun z=>h3 z.1)]
 have hat:∀i,i<L.length->Bur.yA L i=0:=by
  intro i hi
  unfold Bur.yA
  have hg:L[i]? = some L[i]:=List.getElem?_eq_getElem hi
  rw[hg]
  refine hp _ (List.getElem_mem hi) _ ?_
  unfold Bur.prv
  by_cases h0:i=0
  ·rw[if_pos h0];rfl
  ·rw[if_neg h0]
   have hg1:L[i - 1]? = some (L[i - 1]'(by omega)):=List.getElem?_eq_getElem (by omega)
   rw[hg1]
   have:bl (L[i - 1]'(by omega)).1 L[i].1=true:=(List.pairwise_iff_getElem.1 hr) (i - 1) i (by omega) hi (by omega)
   show (if bl (L[i - 1]'(by omega)).1 L[i].1=true then (0:Int) else 2)=0
   rw[if_pos this]
 have go:∀m i,m+i=L.length->Bur.auG L m i=(0,0):=by
  intro m
  induction m with
  | zero=>intro i _;rfl
  | succ m ih=>
   intro i hi
   have:=Bur.Xr (L:=L) (i:=i) (by omega) (hat i (by omega))
   rw[show L.length - i=m+1 by omega,show L.length - (i+1)=m by omega] at this
   rw[this]
   exact ih (i+1) (by omega)
 exact go L.length 0 (by omega)
structure Cov (o:Ox):Prop where
 ent:∀c∈o.own,(enB c.k).isSome=true
 nd:∀c∈o.own,∀n q,enB c.k=some (1,n,q)->c.g=false
 pp:∀c∈o.own,∀e,enB c.k=some e->e.1≠1->c.g=false->txt (Bur.xZ e.2.1)∈o.keys
 pd:∀c∈o.own,∀n q,enB c.k=some (2,n,q)->c.g=true->(loK 112 (txt n),heK 112 (txt n))∈o.spans/\(loK 97 (txt n),heK 97 (txt n))∈o.spans
 ap:∀c∈o.own,∀n q,enB c.k=some (3,n,q)->c.g=false->(loK 112 (txt n),heK 112 (txt n))∈o.spans
theorem YH {n:List UInt8}{k:ByteArray}{q:Bur.Sp}(h:enB k=some (2,n,q)):btw (loK 112 (txt n)) (heK 112 (txt n)) k=true:=by
 have hn:=zk h
 exact ((BX (n:=txt n) (k:=k) (q:=q) (by rw[gI];exact hn)).2 (by rw[gI];exact h)).1
theorem YQ {n:List UInt8}{k:ByteArray}{a:Int}(h:enB k=some (3,n,(a,32))):btw (loK 97 (txt n)) (heK 97 (txt n)) k=true:=by
 have hn:=zk h
 exact ((UL (n:=txt n) (k:=k) (a:=a) (by rw[gI];exact hn)).2 (by rw[gI];exact h)).1
theorem agl {vs:List Ver}{o:Ox}{b:Int}(hA:Go.Proofs.YtmghmpclmphccaaGreatDoor.Agr vs o.sees vs b o)(hn:Ino (fun k=>bG vs k b))(hw:Ino (aT vs o.sees o.own))(cv:Cov o):Ino (aT vs b o.own):=by
 have own:∀{k c},bP o.own k=some c->aT vs b o.own k=aT vs o.sees o.own k:=fun {k c} h=>by unfold aT;rw[h]
 have non:∀{k},bP o.own k=none->aT vs b o.own k=bG vs k b:=fun {k} h=>by unfold aT;rw[h]
 have ask:∀{k},bG vs k o.sees=bG vs k b->aT vs b o.own k=aT vs o.sees o.own k:=fun {k} h=>by unfold aT;cases bP o.own k with
  | none=>exact h.symm
  | some c=>rfl
 have put:∀{k c v},bP o.own k=some c->aT vs b o.own k=some v->c.g=false/\c∈o.own/\c.k=k:=fun {k c v} h e=>by
  have q:=bZ h
  refine⟨?_,q⟩
  unfold aT at e
  rw[h] at e
  cases g:c.g
  ·rfl
  ·simp[g] at e
 have sp2:∀{n},(loK 112 (txt n),heK 112 (txt n))∈o.spans -> ∀{k q},enB k=some (2,n,q)->aT vs b o.own k=aT vs o.sees o.own k:=fun {n} h {k q} he=>ask (hA.2 _ h k (YH he))
 have sp3:∀{n},(loK 97 (txt n),heK 97 (txt n))∈o.spans -> ∀{k a},enB k=some (3,n,(a,32))->aT vs b o.own k=aT vs o.sees o.own k:=fun {n} h {k a} he=>ask (hA.2 _ h k (YQ he))
 refine⟨fun k v h=>?_,fun k v e h he h1=>?_,fun k v n a h he=>?_⟩
 ·cases q:bP o.own k with
  | some c=>rw[own q] at h;exact hw.key k v h
  | none=>rw[non q] at h;exact hn.key k v h
 ·cases q:bP o.own k with
  | some c=>
   obtain⟨g1,g2,g3⟩:=put q h
   have hk:=cv.pp c g2 e (by rw[g3];exact he) h1 g1
   rw[own q] at h
   rw[ask (hA.1 _ hk)]
   exact hw.net k v e h he h1
  | none=>
   rw[non q] at h
   have:=hn.net k v e h he h1
   cases q2:bP o.own (txt (Bur.xZ e.2.1)) with
   | none=>rw[non q2];exact this
   | some c=>
    obtain⟨c1,c2⟩:=bZ q2
    have hg:=cv.nd c c1 e.2.1 (0,0) (by rw[c2];exact Vq (zk he))
    unfold aT
    rw[q2]
    simp[hg]
 ·have later:(∀k' v' q,aT vs o.sees o.own k'=some v'->enB k'=some (2,n,q)->aT vs b o.own k'=some v')->(∃k' v' q,aT vs o.sees o.own k'=some v'/\enB k'=some (2,n,q)/\Bur.hs q a=true) -> ∃k' v' q,aT vs b o.own k'=some v'/\enB k'=some (2,n,q)/\Bur.hs q a=true:=by
   rintro f ⟨k',v',q,z1,z2,z3⟩
   exact⟨k',v',q,f k' v' q z1 z2,z2,z3⟩
  cases q:bP o.own k with
  | some c=>
   obtain⟨g1,g2,g3⟩:=put q h
   have hs:=cv.ap c g2 n (a,32) (by rw[g3];exact he) g1
   rw[own q] at h
   exact later (fun k' v' q z1 z2=>by rw[sp2 hs z2];exact z1) (hw.has k v n a h he)
  | none=>
   have h0:=h
   rw[non q] at h
   obtain⟨k',v',p,z1,z2,z3⟩:=hn.has k v n a h he
   cases q2:bP o.own k' with
   | none=>exact⟨k',v',p,by rw[non q2];exact z1,z2,z3⟩
   | some c=>
    obtain⟨c1,c2⟩:=bZ q2
    cases hg:c.g
    ·exact⟨k',c.v,p,by unfold aT;rw[q2];simp[hg],z2,z3⟩
    ·obtain⟨s1,s2⟩:=cv.pd c c1 n p (by rw[c2];exact z2) hg
     have hW:aT vs o.sees o.own k=some v:=by rw[<- sp3 s2 he];exact h0
     exact later (fun k' v' q y1 y2=>by rw[sp2 s1 y2];exact y1) (hw.has k v n a hW he)
