/- -/
import Derived.Test.YtmghmpclmphccaaGreatDoorGTsMath2
import Derived.Test.YtmghmpclmphccaaGreatDoorGAuG
namespace Go.Proofs.YtmghmpclmphccaaGreatDoor.Pa
open Go.RowKit Vs
def no:ByteArray:=⟨#[111]⟩
def gp:Bur.Sp:=(0,26)
def cGa:Cl:=⟨7,nx,gp,0,0,no⟩
def cGp (n:Int):Cl:=⟨6,nx,gp,n,0,no⟩
theorem Uo:Bur.fault gp.1 gp.2=0:=by decide
theorem afY:clF cGa=0:=by decide
theorem aeS (n:Int):clF (cGp n)=0:=by
 have:clF (cGp n)=clF (cGp 0):=rfl
 rw[this];decide
def Apt (p q:Bur.Sp):Prop:=Bur.inP p q=false/\Bur.inP q p=false
structure Ga (A:List Int)(P:List Bur.Sp):Prop where
 an:A.Nodup
 ar:∀a∈A,1<=a/\a<=62
 pn:P.Pairwise Apt
 pr:∀q∈P,Bur.OkP q/\Bur.inP q gp=true/\q≠gp
structure Gv (V:ByteArray->Option ByteArray)(A:List Int)(P:List Bur.Sp):Prop where
 net:(V (kN nx)).isSome=true
 adr:∀a:Int,Bur.fault a 32=0->((V (kA nx a)).isSome=true↔a∈A)
 can:∀k v a,V k=some v->enB k=some (3,nx.data.toList,(a,32))->k=kA nx a
 pfx:∀q:Bur.Sp,Bur.fault q.1 q.2=0->((V (kP nx q)).isSome=true↔q=gp \/ q∈P)
 cap:∀k v q,V k=some v->enB k=some (2,nx.data.toList,q)->k=kP nx q
theorem Ld {A:List Int}{P:List Bur.Sp}(h:Ga A P){a:Int}(ha:a∈A):Bur.fault a 32=0:=by
 have:=h.ar a ha
 exact zu (by omega) (by omega)
theorem Yo {q:Bur.Sp}:Bur.OkP q↔Bur.fault q.1 q.2=0:=Bur.GrF.abl
structure Tg (vs:List Ver)(o:Ox)(A0:List Int)(P0:List Bur.Sp)(A':List Int)(P':List Bur.Sp):Prop where
 ris:dP o.own
 ga:Ga (A0++A') (P0++P')
 gv:Gv (aT vs o.sees o.own) (A0++A') (P0++P')
 g0:Gv (fun k=>bG vs k o.sees) A0 P0
 own:∀c∈o.own,(∃a∈A',c.k=kA nx a) \/ ∃q∈P',c.k=kP nx q
 sa:A' ≠ []->(loK 97 nx,heK 97 nx)∈o.spans
 sp:P' ≠ []->(loK 112 nx,heK 112 nx)∈o.spans
theorem Tg.less {vs:List Ver}{o o':Ox}{A0 A':List Int}{P0 P':List Bur.Sp}(h:Tg vs o A0 P0 A' P')(h1:o'.own=o.own)(h2:o'.sees=o.sees)(h3:∃ss,o'.spans=o.spans++ss):Tg vs o' A0 P0 A' P':=by
 obtain⟨ss,h3⟩:=h3
 refine⟨by rw[h1];exact h.ris,h.ga,by rw[h1,h2];exact h.gv,by rw[h2];exact h.g0,by rw[h1];exact h.own,fun g=>?_,fun g=>?_⟩
 ·rw[h3];exact List.mem_append.2 (.inl (h.sa g))
 ·rw[h3];exact List.mem_append.2 (.inl (h.sp g))
theorem Tg.grow {vs ws:List Ver}{o:Ox}{A0 A':List Int}{P0 P':List Bur.Sp}(h:Tg vs o A0 P0 A' P')(hg:∀k,bG vs k o.sees=bG ws k o.sees):Tg ws o A0 P0 A' P':=by
 have e:aT ws o.sees o.own=aT vs o.sees o.own:=by
  funext k
  exact ZJ (hg k)
 have e0:(fun k=>bG ws k o.sees)=fun k=>bG vs k o.sees:=funext fun k=>(hg k).symm
 exact⟨h.ris,h.ga,by rw[e];exact h.gv,by rw[e0];exact h.g0,h.own,h.sa,h.sp⟩
theorem Tg.new {vs:List Ver}{i s:Int}{A:List Int}{P:List Bur.Sp}(hg:Ga A P)(hv:Gv (fun k=>bG vs k s) A P):Tg vs (ox0 i s) A P [] []:=
 ⟨List.Pairwise.nil,by rw[List.append_nil,List.append_nil];exact hg,by rw[List.append_nil,List.append_nil];exact hv,hv,fun c hc=>(by cases hc),fun h=>absurd rfl h,fun h=>absurd rfl h⟩
theorem aeE {a b:Int}(ha:Bur.fault a 32=0)(hb:Bur.fault b 32=0)(h:kA nx a=kA nx b):a=b:=by
 have h1:=gJ (n:=nx) ql ha
 rw[h,gJ ql hb] at h1
 have:=Option.some.inj h1
 simp at this
 exact this.symm
theorem X9 {p q:Bur.Sp}(hp:Bur.fault p.1 p.2=0)(hq:Bur.fault q.1 q.2=0)(h:kP nx p=kP nx q):p=q:=by
 have h1:=fQ (n:=nx) ql hp
 rw[h,fQ ql hq] at h1
 have:=Option.some.inj h1
 simp at this
 exact this.symm
theorem Tg.ah2 {vs:List Ver}{o:Ox}{A0 A':List Int}{P0 P':List Bur.Sp}{a:Int}{v:ByteArray}(h:Tg vs o A0 P0 A' P')(h1:1<=a)(h2:a<=62)(h3:a ∉ A0++A')(hs:(loK 97 nx,heK 97 nx)∈o.spans):Tg vs { o with own:=bI o.own ⟨kA nx a,v,false⟩ } A0 P0 (A' ++ [a]) P':=by
 have hf:Bur.fault a 32=0:=zu (by omega) (by omega)
 have e:=xu (vs:=vs) h.ris (kA nx a) v
 refine⟨iZ h.ris,⟨?_,?_,h.ga.pn,h.ga.pr⟩,?_,h.g0,fun c hc=>?_,fun _=>hs,h.sp⟩
 ·rw[<- List.append_assoc]
  exact List.nodup_append.2 ⟨h.ga.an,by simp,fun x hx y hy e=>h3 (by rw[List.mem_singleton.1 hy] at e;rw[<- e];exact hx)⟩
 ·intro x hx
  rw[<- List.append_assoc] at hx
  rcases List.mem_append.1 hx with g|g
  ·exact h.ga.ar x g
  ·rw[List.mem_singleton.1 g];exact⟨h1,h2⟩
 ·show Gv (aT vs o.sees (bI o.own ⟨kA nx a,v,false⟩)) _ _
  rw[e]
  refine⟨sD h.gv.net,fun b hb=>?_,fun k u b hk hb=>?_,fun q hq=>?_,fun k u q hk hq=>?_⟩
  ·unfold xW
   by_cases c:kA nx b=kA nx a
   ·have:=aeE hb hf c
    rw[if_pos c,this]
    simp
   ·rw[if_neg c,h.gv.adr b hb,<- List.append_assoc]
    have:b≠a:=fun g=>c (by rw[g])
    simp[this]
  ·unfold xW at hk
   by_cases c:k=kA nx a
   ·rw[c,gJ ql hf] at hb
    have:=Option.some.inj hb
    simp at this
    rw[c,this]
   ·rw[if_neg c] at hk
    exact h.gv.can k u b hk hb
  ·unfold xW
   rw[if_neg (fun c=>Tn nx a q c.symm)]
   exact h.gv.pfx q hq
  ·unfold xW at hk
   by_cases c:k=kA nx a
   ·rw[c,gJ ql hf] at hq
    have:=Option.some.inj hq
    simp at this
   ·rw[if_neg c] at hk
    exact h.gv.cap k u q hk hq
 ·rcases (gQ h.ris).1 hc with g|g
  ·exact .inl ⟨a,by simp,by rw[g]⟩
  ·rcases h.own c g.1 with ⟨b,hb,e⟩|g
   ·exact .inl ⟨b,by simp[hb],e⟩
   ·exact .inr g
theorem Tg.aib {vs:List Ver}{o:Ox}{A0 A':List Int}{P0 P':List Bur.Sp}{p:Bur.Sp}{v:ByteArray}(h:Tg vs o A0 P0 A' P')(h1:Bur.OkP p)(h2:Bur.inP p gp=true)(h4:p≠gp)(h3:∀q∈P0++P',Apt p q)(hs:(loK 112 nx,heK 112 nx)∈o.spans):Tg vs { o with own:=bI o.own ⟨kP nx p,v,false⟩ } A0 P0 A' (P' ++ [p]):=by
 have hf:Bur.fault p.1 p.2=0:=Yo.1 h1
 have e:=xu (vs:=vs) h.ris (kP nx p) v
 refine⟨iZ h.ris,⟨h.ga.an,h.ga.ar,?_,?_⟩,?_,h.g0,fun c hc=>?_,h.sa,fun _=>hs⟩
 ·rw[<- List.append_assoc]
  exact List.pairwise_append.2 ⟨h.ga.pn,List.pairwise_singleton _ _,fun x hx y hy=>by rw[List.mem_singleton.1 hy];have:=h3 x hx;exact⟨this.2,this.1⟩⟩
 ·intro x hx
  rw[<- List.append_assoc] at hx
  rcases List.mem_append.1 hx with g|g
  ·exact h.ga.pr x g
  ·rw[List.mem_singleton.1 g];exact⟨h1,h2,h4⟩
 ·show Gv (aT vs o.sees (bI o.own ⟨kP nx p,v,false⟩)) _ _
  rw[e]
  refine⟨sD h.gv.net,fun b hb=>?_,fun k u b hk hb=>?_,fun q hq=>?_,fun k u q hk hq=>?_⟩
  ·unfold xW
   rw[if_neg (fun c=>Tn nx b p c)]
   exact h.gv.adr b hb
  ·unfold xW at hk
   by_cases c:k=kP nx p
   ·rw[c,fQ ql hf] at hb
    have:=Option.some.inj hb
    simp at this
   ·rw[if_neg c] at hk
    exact h.gv.can k u b hk hb
  ·unfold xW
   by_cases c:kP nx q=kP nx p
   ·have:=X9 hq hf c
    rw[if_pos c,this]
    simp
   ·rw[if_neg c,h.gv.pfx q hq,<- List.append_assoc]
    have:q≠p:=fun g=>c (by rw[g])
    simp[this]
  ·unfold xW at hk
   by_cases c:k=kP nx p
   ·rw[c,fQ ql hf] at hq
    have:=Option.some.inj hq
    simp at this
    rw[c,this]
   ·rw[if_neg c] at hk
    exact h.gv.cap k u q hk hq
 ·rcases (gQ h.ris).1 hc with g|g
  ·exact .inr ⟨p,by simp,by rw[g]⟩
  ·rcases h.own c g.1 with g|⟨b,hb,e⟩
   ·exact .inl g
   ·exact .inr ⟨b,by simp[hb],e⟩
theorem Vp {k:ByteArray}{K:ByteArray->Bool->Pg}{vs:List Ver}{o:Ox}(h:(loR (asks k K) vs o).2.1=0):∃v b o1,loR (asks k K) vs o=loR (K v b) vs o1/\o1.own=o.own/\o1.sees=o.sees/\(∃ss,o1.spans=o.spans++ss):=by
 have hi:=LG o k
 have hx:=(MI o k).2
 have e:loR (asks k K) vs o=loR (if lgF vs o k=4 then K ByteArray.empty false else if lgF vs o k=0 then K (lgS vs o k) true else err (lgF vs o k)) vs (lgO o k):=rfl
 rw[e] at h ⊢
 by_cases c4:lgF vs o k=4
 ·rw[if_pos c4]
  exact⟨_,_,_,rfl,hi.2.2,hi.2.1,hx⟩
 ·rw[if_neg c4] at h ⊢
  by_cases c0:lgF vs o k=0
  ·rw[if_pos c0]
   exact⟨_,_,_,rfl,hi.2.2,hi.2.1,hx⟩
  ·rw[if_neg c0] at h
   exact absurd h c0
theorem QA {c:UInt8}{n:ByteArray}{F:List Pr->Pg}{vs:List Ver}{o:Ox}(h:(loR (.rng (loK c n) (heK c n) fun l f=>if f=0 then F l else err f) vs o).2.1=0):∃o1,loR (.rng (loK c n) (heK c n) fun l f=>if f=0 then F l else err f) vs o=loR (F (fJ vs o.sees o.own (loK c n) (heK c n))) vs o1/\o1.own=o.own/\o1.sees=o.sees/\(∃ss,o1.spans=o.spans++ss)/\(loK c n,heK c n)∈o1.spans:=by
 have e:loR (.rng (loK c n) (heK c n) fun l f=>if f=0 then F l else err f) vs o=loR (if lrF o=0 then F (lrS vs o (loK c n) (heK c n)) else err (lrF o)) vs (lrO o (loK c n) (heK c n)):=rfl
 rw[e] at h ⊢
 by_cases c0:lrF o=0
 ·rw[if_pos c0]
  have ca:¬100<=o.asked:=fun g=>by unfold lrF at c0;rw[if_pos g] at c0;cases c0
  refine⟨lrO o (loK c n) (heK c n),by unfold lrS;rw[if_neg ca],(CZ o _ _).2.2,(CZ o _ _).2.1,(MX o _ _).2,?_⟩
  unfold lrO
  rw[if_neg ca]
  exact List.mem_append.2 (.inr (List.mem_singleton.2 rfl))
 ·rw[if_neg c0] at h
  exact absurd h c0
theorem Vg {k v:ByteArray}{a:An}{vs:List Ver}{o:Ox}(h:(loR (puts k v a) vs o).2.1=0):loR (puts k v a) vs o=(a,0,{ o with own:=bI o.own ⟨k,v,false⟩ }):=by
 have e:loR (puts k v a) vs o=loR (if lcF o ⟨k,v,false⟩=0 then .ret a 0 else err (lcF o ⟨k,v,false⟩)) vs (lcO o ⟨k,v,false⟩):=rfl
 rw[e] at h ⊢
 by_cases c0:lcF o ⟨k,v,false⟩=0
 ·rw[if_pos c0]
  show (a,(0:Int),lcO o ⟨k,v,false⟩)=_
  unfold lcF at c0
  unfold lcO
  by_cases c1:shF k v=0
  ·rw[if_pos c1] at c0 ⊢
   by_cases c2:20<(bI o.own ⟨k,v,false⟩).length
   ·rw[if_pos c2] at c0;cases c0
   ·rw[if_neg c2]
  ·rw[if_neg c1] at c0;cases c0
 ·rw[if_neg c0] at h
  exact absurd h c0
theorem yB {f:Int}{vs:List Ver}{o:Ox}(hf:f≠0)(h:(loR (err f) vs o).2.1=0):False:=hf h
theorem Tg.ahG {vs:List Ver}{top:Int}(hT:OkT vs top){o:Ox}{A0 A':List Int}{P0 P':List Bur.Sp}(t:Tg vs o A0 P0 A' P')(h:(loR (doP cGa) vs o).2.1=0):Tg vs (loR (doP cGa) vs o).2.2 A0 P0 (A' ++ [(loR (doP cGa) vs o).1.ad]) P':=by
 have e0:doP cGa=asks (kN nx) fun _ is=>aN cGa is:=by unfold doP;rw[if_pos afY];rfl
 rw[e0] at h ⊢
 obtain⟨v,b,o1,e1,a1,a2,a3⟩:=Vp h
 rw[e1] at h ⊢
 have t1:=t.less a1 a2 a3
 cases b with
 | false=>rw[Nl (by decide)] at h;exact (yB (by decide) h).elim
 | true=>
  rw[Z4 rfl] at h ⊢
  have e2:aX cGa=.rng (loK 112 nx) (heK 112 nx) fun l f=>if f=0 then (fun l=>if gp∈(lots l).map Prod.fst then allA nx fun u=>if Bur.nxF gp (ins gp u)=0 then puts (kA nx (Bur.nxS gp (ins gp u))) no ⟨(0,0),Bur.nxS gp (ins gp u),ByteArray.empty,[]⟩ else err (Bur.nxF gp (ins gp u)) else err 4) l else err f:=rfl
  rw[e2] at h ⊢
  obtain⟨o2,e3,b1,b2,b3,b4⟩:=QA h
  rw[e3] at h ⊢
  have t2:=t1.less b1 b2 b3
  by_cases c1:gp∈(lots (fJ vs o1.sees o1.own (loK 112 nx) (heK 112 nx))).map Prod.fst
  ·simp only [c1,if_true] at h ⊢
   have e4:(allA nx fun u=>if Bur.nxF gp (ins gp u)=0 then puts (kA nx (Bur.nxS gp (ins gp u))) no ⟨(0,0),Bur.nxS gp (ins gp u),ByteArray.empty,[]⟩ else err (Bur.nxF gp (ins gp u)))=.rng (loK 97 nx) (heK 97 nx) fun l f=>if f=0 then (fun l=>if Bur.nxF gp (ins gp (fG l))=0 then puts (kA nx (Bur.nxS gp (ins gp (fG l)))) no ⟨(0,0),Bur.nxS gp (ins gp (fG l)),ByteArray.empty,[]⟩ else err (Bur.nxF gp (ins gp (fG l)))) l else err f:=rfl
   rw[e4] at h ⊢
   obtain⟨o3,e5,d1,d2,d3,d4⟩:=QA h
   rw[e5] at h ⊢
   have t3:=t2.less d1 d2 d3
   have hU:∀a∈A0++A',a∈fG (fJ vs o2.sees o2.own (loK 97 nx) (heK 97 nx)):=fun a ha=>by
    have hf:=Ld t2.ga ha
    have hs:=(t2.gv.adr a hf).2 ha
    obtain⟨u,hu⟩:=Option.isSome_iff_exists.1 hs
    exact UA hT t2.ris ql hu (gJ ql hf)
   generalize fG (fJ vs o2.sees o2.own (loK 97 nx) (heK 97 nx))=U at h hU
   by_cases c2:Bur.nxF gp (ins gp U)=0
   ·simp only [c2,if_true] at h ⊢
    have e6:=Vg h
    rw[e6]
    obtain⟨g1,g2,g3⟩:=Bur.GrF.acr c2
    refine t3.ah2 g1 g2 (fun g=>g3 ?_) d4
    refine List.mem_filter.2 ⟨hU _ g,?_⟩
    exact Bur.GrF.Ya g1 g2
   ·simp only [c2,if_false] at h
    exact (yB c2 h).elim
  ·simp only [c1,if_false] at h
   exact (yB (by decide) h).elim
theorem Tg.agD {vs:List Ver}{top:Int}(hT:OkT vs top){o:Ox}{A0 A':List Int}{P0 P':List Bur.Sp}(n:Int)(t:Tg vs o A0 P0 A' P')(h:(loR (doP (cGp n)) vs o).2.1=0):Tg vs (loR (doP (cGp n)) vs o).2.2 A0 P0 A' (P' ++ [(loR (doP (cGp n)) vs o).1.p]):=by
 have e0:doP (cGp n)=asks (kN nx) fun _ is=>aN (cGp n) is:=by unfold doP;rw[if_pos (aeS n)];rfl
 rw[e0] at h ⊢
 obtain⟨v,b,o1,e1,a1,a2,a3⟩:=Vp h
 rw[e1] at h ⊢
 have t1:=t.less a1 a2 a3
 cases b with
 | false=>rw[Nl (by show (6:Int)≠1;decide)] at h;exact (yB (by decide) h).elim
 | true=>
  rw[Xm rfl] at h ⊢
  have e2:aV (cGp n)=.rng (loK 112 nx) (heK 112 nx) fun l f=>if f=0 then (fun l=>if gp∈(lots l).map Prod.fst then (if Bur.fsF gp (inn gp (lots l)) n=0 then (if Bur.fsS gp (inn gp (lots l)) n=gp then err 6 else puts (kP nx (Bur.fsS gp (inn gp (lots l)) n)) no ⟨Bur.fsS gp (inn gp (lots l)) n,0,ByteArray.empty,[]⟩) else err (Bur.fsF gp (inn gp (lots l)) n)) else err 4) l else err f:=rfl
  rw[e2] at h ⊢
  obtain⟨o2,e3,b1,b2,b3,b4⟩:=QA h
  rw[e3] at h ⊢
  have t2:=t1.less b1 b2 b3
  by_cases c1:gp∈(lots (fJ vs o1.sees o1.own (loK 112 nx) (heK 112 nx))).map Prod.fst
  ·simp only [c1,if_true] at h ⊢
   have hU:∀q∈P0++P',q∈inn gp (lots (fJ vs o1.sees o1.own (loK 112 nx) (heK 112 nx))):=fun q hq=>by
    obtain⟨g1,g2,g3⟩:=t1.ga.pr q hq
    have hf:=Yo.1 g1
    have hs:=(t1.gv.pfx q hf).2 (.inr hq)
    obtain⟨u,hu⟩:=Option.isSome_iff_exists.1 hs
    have hm:(q,u)∈lots (fJ vs o1.sees o1.own (loK 112 nx) (heK 112 nx)):=(LH hT t1.ris ql).2 ⟨kP nx q,hu,fQ ql hf⟩
    refine List.mem_filter.2 ⟨List.mem_map.2 ⟨(q,u),hm,rfl⟩,?_⟩
    rw[decide_eq_false g3,Bur.GrF.XV g1 (Yo.2 Uo),g2]
    rfl
   generalize inn gp (lots (fJ vs o1.sees o1.own (loK 112 nx) (heK 112 nx)))=L at h hU
   by_cases c2:Bur.fsF gp L n=0
   ·simp only [c2,if_true] at h ⊢
    by_cases c3:Bur.fsS gp L n=gp
    ·simp only [c3,if_true] at h
     exact (yB (by decide) h).elim
    ·simp only [c3,if_false] at h ⊢
     have e6:=Vg h
     rw[e6]
     obtain⟨g1,g2,g3⟩:=Bur.GrF.acz c2
     exact t2.aib g1 g2 c3 (fun q hq=>g3 q (hU q hq)) b4
   ·simp only [c2,if_false] at h
    exact (yB c2 h).elim
  ·simp only [c1,if_false] at h
   exact (yB (by decide) h).elim
structure Gk where
 who:ByteArray
 td:List (Cl×An)
def gA (td:List (Cl×An)):List Int:=(td.filter fun t=>decide (t.1.what=7)).map fun t=>t.2.ad
def gP (td:List (Cl×An)):List Bur.Sp:=(td.filter fun t => !decide (t.1.what=7)).map fun t=>t.2.p
theorem MK (td:List (Cl×An))(t:Cl×An):gA (td ++ [t])=gA td++(if t.1.what=7 then [t.2.ad] else []):=by
 unfold gA
 rw[List.filter_append,List.map_append]
 by_cases c:t.1.what=7
 ·simp[c]
 ·simp[c]
theorem MH (td:List (Cl×An))(t:Cl×An):gP (td ++ [t])=gP td++(if t.1.what=7 then [] else [t.2.p]):=by
 unfold gP
 rw[List.filter_append,List.map_append]
 by_cases c:t.1.what=7
 ·simp[c]
 ·simp[c]
theorem Ul (td:List (Cl×An)):(gA td).length+(gP td).length=td.length:=by
 induction td with
 | nil=>rfl
 | cons t r ih=>
  unfold gA gP at ih ⊢
  by_cases c:t.1.what=7
  ·simp[c] at ih ⊢;omega
  ·simp[c] at ih ⊢;omega
def gW (op:List Gk):Nat:=(op.map fun x=>x.td.length+1).sum
theorem take_same {A:List Int}{i:Nat}(hn:A.Nodup)(h:∀a∈A,a∈A.take i):A.take i=A:=by
 by_cases c:A.length<=i
 ·exact List.take_of_length_le c
 ·have hi:i<A.length:=by omega
  have hm:=h A[i] (List.getElem_mem hi)
  obtain⟨j,hj,e⟩:=List.getElem_of_mem hm
  rw[List.length_take] at hj
  rw[List.getElem_take] at e
  have hp:=List.pairwise_iff_getElem.1 hn
  exact absurd e (hp j i (by omega) hi (by omega))
theorem Apt.irr {p:Bur.Sp}(h:Apt p p):False:=by
 have:Bur.inP p p=true:=Bur.WY p
 rw[h.1] at this
 cases this
theorem Sz {P:List Bur.Sp}{i:Nat}(hn:P.Pairwise Apt)(h:∀a∈P,a∈P.take i):P.take i=P:=by
 by_cases c:P.length<=i
 ·exact List.take_of_length_le c
 ·have hi:i<P.length:=by omega
  have hm:=h P[i] (List.getElem_mem hi)
  obtain⟨j,hj,e⟩:=List.getElem_of_mem hm
  rw[List.length_take] at hj
  rw[List.getElem_take] at e
  have hp:=List.pairwise_iff_getElem.1 hn j i (by omega) hi (by omega)
  rw[e] at hp
  exact hp.irr.elim
theorem Tg.idle {vs:List Ver}{o:Ox}{A0 A':List Int}{P0 P':List Bur.Sp}(t:Tg vs o A0 P0 A' P')(h:o.own=[]):A'=[]/\P'=[]:=by
 have e:aT vs o.sees o.own=fun k=>bG vs k o.sees:=by rw[h];rfl
 have gv:=t.gv
 rw[e] at gv
 refine⟨List.eq_nil_iff_forall_not_mem.2 (fun a ha=>?_),List.eq_nil_iff_forall_not_mem.2 (fun q hq=>?_)⟩
 ·have hm:a∈A0++A':=List.mem_append.2 (.inr ha)
  have hf:=Ld t.ga hm
  have h0:=(t.g0.adr a hf).1 ((gv.adr a hf).2 hm)
  exact (List.nodup_append.1 t.ga.an).2.2 a h0 a ha rfl
 ·have hm:q∈P0++P':=List.mem_append.2 (.inr hq)
  obtain⟨o1,_,o3⟩:=t.ga.pr q hm
  rcases (t.g0.pfx q o1).1 ((gv.pfx q o1).2 (.inr hm)) with g|g
  ·exact o3 g
  ·exact ((List.pairwise_append.1 t.ga.pn).2.2 q g q hq).irr
theorem Tg.commit {vs:List Ver}{o:Ox}{A A':List Int}{P P':List Bur.Sp}{i j:Nat}{b:Int}(t:Tg vs o (A.take i) (P.take j) A' P')(hA:Agr vs o.sees vs b o)(ga:Ga A P)(gv:Gv (fun k=>bG vs k b) A P):Ga (A++A') (P++P')/\Gv (aT vs b o.own) (A++A') (P++P'):=by
 have eA:A' ≠ []->A.take i=A:=fun g=>take_same ga.an (fun a ha=>by
  have hf:=Ld ga ha
  have h1:=(gv.adr a hf).2 ha
  have h2:=hA.2 _ (t.sa g) (kA nx a) (YQ (gJ (n:=nx) ql hf))
  rw[<- h2] at h1
  exact (t.g0.adr a hf).1 h1)
 have eP:P' ≠ []->P.take j=P:=fun g=>Sz ga.pn (fun q hq=>by
  obtain⟨o1,_,o3⟩:=ga.pr q hq
  have h1:=(gv.pfx q o1).2 (.inr hq)
  have h2:=hA.2 _ (t.sp g) (kP nx q) (YH (fQ (n:=nx) ql o1))
  rw[<- h2] at h1
  rcases (t.g0.pfx q o1).1 h1 with g|g
  ·exact absurd g o3
  ·exact g)
 have gA1:(A++A').Nodup /\ ∀a∈A++A',1<=a/\a<=62:=by
  by_cases c:A'=[]
  ·rw[c,List.append_nil];exact⟨ga.an,ga.ar⟩
  ·have:=eA c
   rw[<- this];exact⟨t.ga.an,t.ga.ar⟩
 have gP1:(P++P').Pairwise Apt /\ ∀q∈P++P',Bur.OkP q/\Bur.inP q gp=true/\q≠gp:=by
  by_cases c:P'=[]
  ·rw[c,List.append_nil];exact⟨ga.pn,ga.pr⟩
  ·have:=eP c
   rw[<- this];exact⟨t.ga.pn,t.ga.pr⟩
 refine⟨⟨gA1.1,gA1.2,gP1.1,gP1.2⟩,?_⟩
 have split:∀k,(bP o.own k=none/\aT vs b o.own k=bG vs k b/\aT vs o.sees o.own k=bG vs k o.sees) \/ (aT vs b o.own k=aT vs o.sees o.own k/\((∃a∈A',k=kA nx a) \/ ∃q∈P',k=kP nx q)):=fun k=>by
  unfold aT
  cases e:bP o.own k with
  | none=>exact .inl ⟨rfl,rfl,rfl⟩
  | some c=>
   obtain⟨h1,h2⟩:=bZ e
   refine .inr ⟨rfl,?_⟩
   rcases t.own c h1 with ⟨a,ha,g⟩|⟨q,hq,g⟩
   ·exact .inl ⟨a,ha,by rw[<- h2,g]⟩
   ·exact .inr ⟨q,hq,by rw[<- h2,g]⟩
 refine⟨?_,fun a hf=>?_,fun k v a hk he=>?_,fun q hf=>?_,fun k v q hk he=>?_⟩
 ·rcases split (kN nx) with ⟨_,g,_⟩|⟨g,_⟩
  ·rw[g];exact gv.net
  ·rw[g];exact t.gv.net
 ·rcases split (kA nx a) with ⟨_,g1,g2⟩|⟨g1,g2⟩
  ·rw[g1,gv.adr a hf,List.mem_append]
   refine⟨.inl,fun h=>h.elim id (fun h=>?_)⟩
   have h1:=(t.gv.adr a hf).2 (List.mem_append.2 (.inr h))
   rw[g2] at h1
   have h2:=(t.g0.adr a hf).1 h1
   exact ((List.nodup_append.1 t.ga.an).2.2 a h2 a h rfl).elim
  ·rw[g1,t.gv.adr a hf]
   rcases g2 with ⟨x,hx,g⟩|⟨x,hx,g⟩
   ·have:A' ≠ []:=fun e=>by rw[e] at hx;cases hx
    rw[eA this]
   ·exact absurd g (Tn nx a x)
 ·rcases split k with ⟨_,g1,_⟩|⟨_,g2⟩
  ·rw[g1] at hk;exact gv.can k v a hk he
  ·rcases g2 with ⟨x,hx,g⟩|⟨x,hx,g⟩
   ·have hf:=Ld t.ga (List.mem_append.2 (.inr hx))
    rw[g,gJ ql hf] at he
    have:=Option.some.inj he
    simp at this
    rw[g,this]
   ·have hf:=(t.ga.pr x (List.mem_append.2 (.inr hx))).1
    rw[g,fQ ql hf] at he
    have:=Option.some.inj he
    simp at this
 ·rcases split (kP nx q) with ⟨_,g1,g2⟩|⟨g1,g2⟩
  ·rw[g1,gv.pfx q hf,List.mem_append]
   refine⟨fun h=>h.imp id .inl,fun h=>h.elim .inl (fun h=>h.elim .inr (fun h=>?_))⟩
   have hm:q∈P.take j++P':=List.mem_append.2 (.inr h)
   have h1:=(t.gv.pfx q hf).2 (.inr hm)
   rw[g2] at h1
   obtain⟨o1,_,o3⟩:=t.ga.pr q hm
   rcases (t.g0.pfx q hf).1 h1 with g|g
   ·exact absurd g o3
   ·exact (((List.pairwise_append.1 t.ga.pn).2.2 q g q h).irr).elim
  ·rw[g1,t.gv.pfx q hf]
   rcases g2 with ⟨x,hx,g⟩|⟨x,hx,g⟩
   ·exact absurd g.symm (Tn nx x q)
   ·have:P' ≠ []:=fun e=>by rw[e] at hx;cases hx
    rw[eP this]
 ·rcases split k with ⟨_,g1,_⟩|⟨_,g2⟩
  ·rw[g1] at hk;exact gv.cap k v q hk he
  ·rcases g2 with ⟨x,hx,g⟩|⟨x,hx,g⟩
   ·have hf:=Ld t.ga (List.mem_append.2 (.inr hx))
    rw[g,gJ ql hf] at he
    have:=Option.some.inj he
    simp at this
   ·have hf:=(t.ga.pr x (List.mem_append.2 (.inr hx))).1
    rw[g,fQ ql hf] at he
    have:=Option.some.inj he
    simp at this
    rw[g,this]
structure Gx (n m:Nat)(d:Dk)(S:Ses)(op:List Gk)(A:List Int)(P:List Bur.Sp):Prop where
 hz:Hz m d
 len:op.length=d.op.length
 sl:S.length=op.length
 ses:∀(j:Nat) (x:Gk) (o:Ox),op[j]? = some x->d.op[j]? = some o->S[j]? = some (x.who,o.id)
 nd:(S.map Prod.fst).Nodup
 opn:∀(j:Nat) (x:Gk) (o:Ox),op[j]? = some x->d.op[j]? = some o -> ∃i i',i<=A.length/\i'<=P.length/\Tg d.vs o (A.take i) (P.take i') (gA x.td) (gP x.td)
 ga:Ga A P
 gv:Gv (fun k=>bG d.vs k d.last) A P
 cnt:A.length+P.length+gW op<=n
 two:A.length+P.length≠0->A.length+P.length+gW op+2<=n
section
variable {n m:Nat}{d:Dk}{S:Ses}{op:List Gk}{A:List Int}{P:List Bur.Sp}
theorem Gx.at (h:Gx n m d S op A P){j:Nat}{x:Gk}(hj:op[j]? = some x):∃o,d.op[j]? = some o/\o∈d.op/\opI d o.id=some o/\S[j]? = some (x.who,o.id) /\ ∃i i',i<=A.length/\i'<=P.length/\Tg d.vs o (A.take i) (P.take i') (gA x.td) (gP x.td):=by
 have hl:=(List.getElem?_eq_some_iff.1 hj).1
 have hl2:j<d.op.length:=by rw[<- h.len];exact hl
 have e:d.op[j]? = some d.op[j]:=List.getElem?_eq_getElem hl2
 have hm:=List.mem_of_getElem? e
 exact⟨_,e,hm,aai h.hz.dp.ok.ids hm,h.ses j x _ hj e,h.opn j x _ hj e⟩
theorem Gx.more (h:Gx n m d S op A P):Gx (n+1) (m+4) d S op A P:=
 ⟨h.hz.more (by omega),h.len,h.sl,h.ses,h.nd,h.opn,h.ga,h.gv,by have:=h.cnt;omega,fun g=>by have:=h.two g;omega⟩
theorem Gx.abj (h:Gx n m d S op A P){who:ByteArray}(hf:hoF d S who≠0):Gx (n+1) (m+4) (hoD d S who) (hoS d S who) op A P:=by
 have e1:hoS d S who=S:=if_neg hf
 have e2:hoD d S who=d:=by
  unfold hoD
  split
  ·rename_i c
   have:hoF d S who=bgF d:=by unfold hoF;rw[if_pos c.1,c.2];rfl
   rw[bgD,if_neg (by rw[<- this];exact hf)]
  ·rfl
 rw[e1,e2]
 exact h.more
theorem aat (op:List Gk)(x:Gk):gW (op ++ [x])=gW op+(x.td.length+1):=by simp[gW]
theorem Gx.open (h:Gx n m d S op A P){who:ByteArray}(hf:hoF d S who=0):Gx (n+1) (m+4) (hoD d S who) (hoS d S who) (op ++ [⟨who,[]⟩]) A P:=by
 have hz2:=(aa7 h.hz (S:=S) who).more (m:=m+4) (by omega)
 obtain⟨hf,hn,e1,e2⟩:=Yc hf
 rw[e1] at hz2
 rw[e1,e2]
 obtain⟨h1,h2,h3,h4⟩:=Kz d
 have en:bgN d=d.ids+1:=by rw[bgN,if_pos hf]
 have eo:(bgD d).op=d.op ++ [ox0 (d.ids+1) d.last]:=by rw[bgD,if_pos hf];rfl
 have el:(bgD d).last=d.last:=by rw[bgD,if_pos hf]
 have last:∀{j:Nat} {x:Gk} {o:Ox},(op ++ [⟨who,[]⟩])[j]? = some x->(bgD d).op[j]? = some o->(op[j]? = some x/\d.op[j]? = some o) \/ (j=op.length/\x=⟨who,[]⟩/\o=ox0 (d.ids+1) d.last):=by
  intro j x o hx ho
  rw[eo] at ho
  rw[List.getElem?_append] at hx ho
  rw[h.len] at hx
  split at hx
  ·rename_i c
   rw[if_pos c] at ho
   exact .inl ⟨hx,ho⟩
  ·rename_i c
   rw[if_neg c] at ho
   have h0:j - d.op.length=0:=by
    have:=(List.getElem?_eq_some_iff.1 hx).1
    simp at this;omega
   rw[h0] at hx ho
   exact .inr ⟨by rw[h.len];omega,by simpa using hx.symm,by simpa using ho.symm⟩
 refine⟨hz2,by rw[eo];simp[h.len],by simp[h.sl],fun j x o hx ho=>?_,TI h.nd hn,fun j x o hx ho=>?_,h.ga,by rw[h4,el];exact h.gv,by rw[aat];have:=h.cnt;simp;omega,fun g=>by rw[aat];have:=h.two g;simp;omega⟩
 ·rcases last hx ho with ⟨a,b⟩|⟨a,b,c⟩
  ·have:=(List.getElem?_eq_some_iff.1 a).1
   rw[List.getElem?_append,if_pos (by rw[h.sl];exact this)]
   exact h.ses j x o a b
  ·rw[a,b,c,List.getElem?_append,if_neg (by rw[h.sl];omega),h.sl,Nat.sub_self,en];rfl
 ·rw[h4]
  rcases last hx ho with ⟨a,b⟩|⟨a,b,c⟩
  ·exact h.opn j x o a b
  ·rw[b,c]
   refine⟨A.length,P.length,Nat.le_refl _,Nat.le_refl _,?_⟩
   rw[List.take_length,List.take_length]
   exact Tg.new h.ga h.gv
theorem W9:∀(op:List Gk) (j:Nat) (x y:Gk),op[j]? = some x->gW (op.set j y)+(x.td.length+1)=gW op+(y.td.length+1)
 | z :: r,0,x,y,h=>by
  cases (Option.some.inj h)
  simp[gW];omega
 | z :: r,j+1,x,y,h=>by
  have:=W9 r j x y (by simpa using h)
  simp[gW] at this ⊢;omega
theorem Gx.ask (h:Gx n m d S op A P){j:Nat}{y:Gk}(hj:op[j]? = some y)(c:Cl)(hc:c=cGa \/ ∃k,c=cGp k) :
  (haF d S y.who c≠0->Gx (n+1) (m+4) (haD d S y.who c) S op A P)/\(haF d S y.who c=0->Gx (n+1) (m+4) (haD d S y.who c) S (op.set j ⟨y.who,y.td ++ [(c,haA d S y.who c)]⟩) A P):=by
 obtain⟨o,ho,hm,hI,hS,i,i',hi,hi',t⟩:=h.at hj
 have hs:=QM h.nd hS
 obtain⟨r1,r2,r3⟩:=DI (doP c) d o.id o h.hz.dp.ok.ids hI
 have hid:=EL (doP c) d.vs o
 have e1:haD d S y.who c=bM d (loR (doP c) d.vs o).2.2:=by unfold haD;rw[hs];exact r3
 have e2:haF d S y.who c=(loR (doP c) d.vs o).2.1:=by unfold haF;rw[hs];exact r2
 have e3:haA d S y.who c=(loR (doP c) d.vs o).1:=by unfold haA;rw[hs];exact r1
 have hz2:=(aeB h.hz (S:=S) y.who c).more (m:=m+4) (by omega)
 have eo:(bM d (loR (doP c) d.vs o).2.2).op=d.op.set j (loR (doP c) d.vs o).2.2:=ZQ h.hz.dp.ok.ids ho hid.1
 rw[e1] at hz2
 rw[e1,e2,e3]
 have chq:chC c=true:=by rcases hc with rfl|⟨k,rfl⟩ <;> rfl
 have q:=Zl (chC c) (doP c) d.vs o (ahp c)
 have fin:∀(y':Gk),y'.who=y.who->(∃i i',i<=A.length/\i'<=P.length/\Tg d.vs (loR (doP c) d.vs o).2.2 (A.take i) (P.take i') (gA y'.td) (gP y'.td))->y'.td.length<=y.td.length+1->Gx (n+1) (m+4) (bM d (loR (doP c) d.vs o).2.2) S (op.set j y') A P:=by
  intro y' hw ht hl
  have hgw:=W9 op j y y' hj
  refine⟨hz2,by rw[eo,List.length_set,List.length_set];exact h.len,by rw[List.length_set];exact h.sl,fun a z p hzz hp=>?_,h.nd,fun a z p hzz hp=>?_,h.ga,h.gv,by have:=h.cnt;omega,fun g=>by have:=h.two g;omega⟩
  ·rw[eo] at hp
   rw[List.getElem?_set] at hzz hp
   by_cases c:j=a
   ·rw[if_pos c] at hzz hp
    split at hzz
    ·split at hp
     ·rw[<- Option.some.inj hzz,<- Option.some.inj hp,<- c,hS,hw,hid.1]
     ·cases hp
    ·cases hzz
   ·rw[if_neg c] at hzz hp
    exact h.ses a z p hzz hp
  ·show ∃i i',_/\_/\Tg d.vs p _ _ _ _
   rw[eo] at hp
   rw[List.getElem?_set] at hzz hp
   by_cases c:j=a
   ·rw[if_pos c] at hzz hp
    split at hzz
    ·split at hp
     ·rw[<- Option.some.inj hzz,<- Option.some.inj hp]
      exact ht
     ·cases hp
    ·cases hzz
   ·rw[if_neg c] at hzz hp
    exact h.opn a z p hzz hp
 refine⟨fun hf=>?_,fun hf=>?_⟩
 ·have t2:=t.less (q.1 (.inr hf)) hid.2 (NR (doP c) d.vs o).2
  have:=fin y rfl ⟨i,i',hi,hi',t2⟩ (by omega)
  rw[show op.set j y=op by obtain⟨hl,e⟩:=List.getElem?_eq_some_iff.1 hj;rw[<- e];exact List.set_getElem_self hl] at this
  exact this
 ·refine fin ⟨y.who,y.td ++ [(c,(loR (doP c) d.vs o).1)]⟩ rfl ⟨i,i',hi,hi',?_⟩ (by simp)
  rcases hc with rfl|⟨k,rfl⟩
  ·have t2:=t.ahG h.hz.dp.ok.tb hf
   have e7:(cGa,(loR (doP cGa) d.vs o).1).1.what=7:=rfl
   rw[MK,MH,if_pos e7,if_pos e7,List.append_nil]
   exact t2
  ·have t2:=t.agD h.hz.dp.ok.tb k hf
   have e7:¬(cGp k,(loR (doP (cGp k)) d.vs o).1).1.what=7:=by show ¬(6:Int)=7;decide
   rw[MK,MH,if_neg e7,if_neg e7,List.append_nil]
   exact t2
theorem adQ:∀(op:List Gk) (j:Nat) (x:Gk),op[j]? = some x->gW (op.eraseIdx j)+(x.td.length+1)=gW op
 | z :: r,0,x,h=>by
  cases (Option.some.inj h)
  simp[gW];omega
 | z :: r,j+1,x,h=>by
  have:=adQ r j x (by simpa using h)
  simp[gW] at this ⊢;omega
theorem Gx.close (h:Gx n m d S op A P){j:Nat}{y:Gk}(hj:op[j]? = some y) :
  (hcF d S y.who=0->Gx (n+1) (m+4) (hcD d S y.who) (iQ S y.who) (op.eraseIdx j) (A++gA y.td) (P++gP y.td))/\(hcF d S y.who≠0->Gx (n+1) (m+4) (hcD d S y.who) (iQ S y.who) (op.eraseIdx j) A P):=by
 obtain⟨o,ho,hm,hI,hS,i,i',hi,hi',t⟩:=h.at hj
 have hs:=QM h.nd hS
 have hz2:=(Yy h.hz (S:=S) y.who).more (m:=m+4) (by omega)
 have e1:hcF d S y.who=cmF d o.id:=by unfold hcF;rw[hs]
 have e3:hcD d S y.who=cmD d o.id:=by unfold hcD;rw[hs]
 rw[e3] at hz2
 rw[e1,e3]
 have ok:=h.hz.dp.ok
 have hok:=ok.op o hm
 have es:=UW h.nd hS
 have nd:=CG (k:=y.who) h.nd
 have eo:(bT d o.id).op=d.op.eraseIdx j:=Qc ok.ids ho
 have hgw:=adQ op j y hj
 have hgl:=Ul y.td
 have fin:∀(d':Dk) (A':List Int) (P':List Bur.Sp),Hz (m+4) d'->d'.op=(bT d o.id).op->(∀q∈d.op,∀k,bG d.vs k q.sees=bG d'.vs k q.sees)->Ga (A++A') (P++P')->Gv (fun k=>bG d'.vs k d'.last) (A++A') (P++P')->A'.length+P'.length<=y.td.length->Gx (n+1) (m+4) d' (iQ S y.who) (op.eraseIdx j) (A++A') (P++P'):=by
  intro d' A' P' hz' ho' hv ga gv hl
  have c0:=h.cnt
  refine⟨hz',by rw[ho',eo,List.length_eraseIdx,List.length_eraseIdx,h.len],by rw[es,List.length_eraseIdx,List.length_eraseIdx,h.sl],fun a x p hx hp=>?_,nd,fun a x p hx hp=>?_,ga,gv,?_,fun _=>?_⟩
  ·rw[ho',eo] at hp
   rw[es]
   rw[List.getElem?_eraseIdx] at hx hp ⊢
   split at hx
   ·rename_i c
    rw[if_pos c] at hp ⊢
    exact h.ses a x p hx hp
   ·rename_i c
    rw[if_neg c] at hp ⊢
    exact h.ses (a+1) x p hx hp
  ·rw[ho',eo] at hp
   obtain⟨b,b',hb,hb',tt⟩:=VR (P:=fun x p=>∃i i',i<=A.length/\i'<=P.length/\Tg d.vs p (A.take i) (P.take i') (gA x.td) (gP x.td)) h.opn j a x p hx hp
   have hpm:p∈d.op:=List.mem_of_mem_eraseIdx (List.mem_of_getElem? hp)
   refine⟨b,b',by simp;omega,by simp;omega,?_⟩
   rw[List.take_append_of_le_length hb,List.take_append_of_le_length hb']
   exact tt.grow (hv p hpm)
  ·simp;omega
  ·simp;omega
 have same:∀d':Dk,Hz (m+4) d'->d'.op=(bT d o.id).op->d'.vs=d.vs->d'.last=d.last->Gx (n+1) (m+4) d' (iQ S y.who) (op.eraseIdx j) A P:=fun d' hz' ho' hv hl'=>by
  have:=fin d' [] [] hz' ho' (fun q _ k=>by rw[hv]) (by rw[List.append_nil,List.append_nil];exact h.ga) (by rw[List.append_nil,List.append_nil,hv,hl'];exact h.gv) (by simp)
  rw[List.append_nil,List.append_nil] at this
  exact this
 unfold cmF
 have eD:cmD d o.id=(match opI d o.id with
  | none=>d
  | some q=>if clash d.vs q=true then bT d o.id else if q.own=[] then bT d o.id else if apF d.lg q.own=0 then aae (bT d o.id) q.own else { bT d o.id with lg:=apG d.lg q.own }):=rfl
 rw[eD] at hz2 ⊢
 rw[hI] at hz2 ⊢
 simp only at hz2 ⊢
 by_cases c:clash d.vs o=true
 ·simp only [c,if_true] at hz2 ⊢
  exact⟨fun g=>(by cases g),fun _=>same _ hz2 rfl rfl rfl⟩
 ·simp only [c,Bool.false_eq_true,if_false] at hz2 ⊢
  by_cases c2:o.own=[]
  ·simp only [c2,if_true] at hz2 ⊢
   obtain⟨a1,a2⟩:=t.idle c2
   rw[a1,a2,List.append_nil,List.append_nil]
   exact⟨fun _=>same _ hz2 rfl rfl rfl,fun g=>absurd rfl g⟩
  ·simp only [c2,if_false] at hz2 ⊢
   by_cases c3:apF d.lg o.own=0
   ·simp only [c3,if_true] at hz2 ⊢
    refine⟨fun _=>?_,fun g=>absurd rfl g⟩
    have hcl:clash d.vs o=false:=by simpa using c
    have hA:=Oj hcl (b:=d.last) hok.s1
    obtain⟨g1,g2⟩:=t.commit hA h.ga h.gv
    have eg:(fun k=>bG (aae (bT d o.id) o.own).vs k (aae (bT d o.id) o.own).last)=aT d.vs d.last o.own:=funext fun k=>Ud ok.tb ok.tl (show d.last<d.last+1 by omega) t.ris k
    refine fin _ _ _ hz2 rfl (fun q hq k=>?_) g1 (by rw[eg];exact g2) (by omega)
    show bG d.vs k q.sees=bG (d.vs++o.own.map (fF (d.last+1))) k q.sees
    have hq1:=(ok.op q hq).s1
    exact (OT (fun x hx=>by
     obtain⟨z,_,rfl⟩:=List.mem_map.1 hx
     show q.sees<d.last+1
     omega)).symm
   ·simp only [c3,if_false] at hz2 ⊢
    exact⟨fun g=>(by first|exact g.elim|exact absurd g c3),fun _=>same _ hz2 rfl rfl rfl⟩
end
theorem Gx.small {n m:Nat}{d:Dk}{S:Ses}{op:List Gk}{A:List Int}{P:List Bur.Sp}(h:Gx n m d S op A P)(hn:n<=60):A.length+P.length<=58:=by
 by_cases c:A.length+P.length=0
 ·omega
 ·have:=h.two c
  omega
theorem Xo:∀{op:List Gk} {j:Nat} {x:Gk},op[j]? = some x->x.td.length+1<=gW op
 | z :: r,0,x,h=>by
  cases (Option.some.inj h)
  simp[gW]
 | z :: r,j+1,x,h=>by
  have:=Xo (op:=r) (j:=j) (x:=x) (by simpa using h)
  simp[gW] at this ⊢;omega
end Go.Proofs.YtmghmpclmphccaaGreatDoor.Pa
namespace Go.Proofs.YtmghmpclmphccaaGreatDoor.Pa
open Go.RowKit Go.Maps Vs
structure Dt where
 x:Gk
 a:Value
 b:Value
 us:List Value
def dO (e:Dt):List Value:=[.string e.x.who,.int .i64 0,e.a,e.b,.slice none 0 0]
def cZ (c:Cl):List Value:=[.int .i64 c.what,.string c.nm,.int .i64 c.p.1,.int .i64 c.p.2,.int .i64 c.len,.int .i64 c.ad,.string c.ow]
def pJ (t:(Cl×An)×Value):List Value:=[.int .i64 t.1.2.p.1,.int .i64 t.1.2.p.2,.int .i64 t.1.2.ad,.string t.1.2.ow,t.2]
def inV (A:List Int):List Value:=A.map fun a=>.int .i64 a
theorem afr:(Tryz.prog.info? 3).map (fun i=>(i.zero,i.size,i.bytes))=some (some (.int .i64 0),1,8):=by kernel_rfl
theorem afy:(Tryz.prog.info? 31).map (fun i=>(i.zero,i.size,i.bytes))=some (some (.agg #[.int .i64 0,.int .i64 0]),2,16):=by kernel_rfl
theorem NH:(Tryz.prog.info? 40).map (fun i=>(i.zero,i.size,i.bytes))=some (some (.agg #[.string ByteArray.empty,.int .i64 0,.slice none 0 0,.slice none 0 0,.slice none 0 0]),5,96):=by kernel_rfl
theorem NJ:(Tryz.prog.info? 33).map (fun i=>(i.zero,i.size,i.bytes))=some (some (.agg #[.int .i64 0,.string ByteArray.empty,.int .i64 0,.int .i64 0,.int .i64 0,.int .i64 0,.string ByteArray.empty]),7,72):=by kernel_rfl
theorem NU:(Tryz.prog.info? 46).map (fun i=>(i.zero,i.size,i.bytes))=some (some (.agg #[.int .i64 0,.int .i64 0,.int .i64 0,.string ByteArray.empty,.slice none 0 0]),5,64):=by kernel_rfl
def Fz (X:Nat->Prop)(w:World)(e size:Nat)(v:Value)(n:Nat)(cs:List Value):Prop:=w.ownsRow 0 e size v n cs /\ ∀j,v.ownBlock=some j->X j
theorem Fz.but {E X X':Nat->Prop}{w w':World}{e size n:Nat}{v:Value}{cs:List Value}(h:Fz X w e size v n cs)(hb:But E w w')(hE:∀j,X j -> ¬E j)(hX:∀j,j<w.heap.size->X j->X' j):Fz X' w' e size v n cs:=
 ⟨Ro h.1 hb (fun j hj=>hE j (h.2 j hj)),fun j hj=>hX j (bV h.1 hj).2 (h.2 j hj)⟩
theorem Fz.nil (X:Nat->Prop)(w:World)(e size:Nat):Fz X w e size (.slice none 0 0) 0 []:=⟨World.ownsRow_nil _ _ _ _,fun j h=>by cases h⟩
theorem Fz.form {X:Nat->Prop}{w:World}{e size n:Nat}{v:Value}{cs:List Value}(h:Fz X w e size v n cs):∃p c,v=.slice p n c/\n<=c/\c<=9223372036854775807:=by
 rcases h.1.2 with ⟨h2,h3⟩|⟨g,c,cur,h2,_,_,h3,h4,_⟩
 ·exact⟨none,0,by rw[h2,h3],by omega,by decide⟩
 ·exact⟨_,c,h2,h3,h4⟩
structure yP (X:Nat->Prop)(w:World)(e:Dt):Prop where
 a:Fz X w 33 7 e.a e.x.td.length ((e.x.td.map Prod.fst).flatMap cZ)
 b:Fz X w 46 5 e.b e.x.td.length ((e.x.td.zip e.us).flatMap pJ)
 u:∀(i:Nat) (t:Cl×An) (u:Value),e.x.td[i]? = some t->e.us[i]? = some u->Fz X w 31 2 u t.2.l.length (pfV t.2.l)
 n:e.x.td.length<=1000
 m:e.us.length=e.x.td.length
theorem yP.but {E X X':Nat->Prop}{w w':World}{e:Dt}(h:yP X w e)(hb:But E w w')(hE:∀j,X j -> ¬E j)(hX:∀j,j<w.heap.size->X j->X' j):yP X' w' e:=
 ⟨h.a.but hb hE hX,h.b.but hb hE hX,fun i t u h1 h2=>(h.u i t u h1 h2).but hb hE hX,h.n,h.m⟩
structure Ef (n0:Nat)(K X:Nat->Prop)(w:World)(v:Value)(es:List Dt):Prop where
 row:w.ownsRow n0 40 5 v es.length (es.flatMap dO)
 blk:∀j,v.ownBlock=some j->K j /\ ¬X j
 each:∀e∈es,yP X w e
theorem Ef.nil (n0:Nat)(K X:Nat->Prop)(w:World):Ef n0 K X w (.slice none 0 0) []:=⟨World.ownsRow_nil _ _ _ _,(fun j h=>by cases h),fun e h=>by simp at h⟩
theorem Ef.but {n0:Nat}{E K K' X X':Nat->Prop}{w w':World}{v:Value}{es:List Dt}(h:Ef n0 K X w v es)(hb:But E w w')(hv:∀j,v.ownBlock=some j -> ¬E j)(hE:∀j,X j -> ¬E j)(hX:∀j,j<w.heap.size->X j->X' j)(hX2:∀j,j<w.heap.size->X' j->X j)(hK:∀j,j<w.heap.size->K j->K' j):Ef n0 K' X' w' v es:=
 ⟨Ro h.row hb hv,fun j hj=>⟨hK j (bV h.row hj).2 (h.blk j hj).1,fun g=>(h.blk j hj).2 (hX2 j (bV h.row hj).2 g)⟩,fun e he=>(h.each e he).but hb hE hX⟩
theorem Ef.form {n0:Nat}{K X:Nat->Prop}{w:World}{v:Value}{es:List Dt}(h:Ef n0 K X w v es):∃p c,v=.slice p es.length c/\es.length<=c/\c<=9223372036854775807:=by
 rcases h.row.2 with ⟨h2,h3⟩|⟨g,c,cur,h2,_,_,h3,h4,_⟩
 ·exact⟨none,0,by rw[h2,h3],by omega,by decide⟩
 ·exact⟨_,c,h2,h3,h4⟩
structure rE (n0:Nat)(K X:Nat->Prop)(w:World)(e size:Nat)(v:Value)(n:Nat)(cs:List Value):Prop where
 row:w.ownsRow n0 e size v n cs
 blk:∀j,v.ownBlock=some j->K j /\ ¬X j
theorem rE.nil (n0:Nat)(K X:Nat->Prop)(w:World)(e size:Nat):rE n0 K X w e size (.slice none 0 0) 0 []:=⟨World.ownsRow_nil _ _ _ _,fun j h=>by cases h⟩
theorem rE.but {n0 e size n:Nat}{E K K' X X':Nat->Prop}{w w':World}{v:Value}{cs:List Value}(h:rE n0 K X w e size v n cs)(hb:But E w w')(hv:∀j,v.ownBlock=some j -> ¬E j)(hX2:∀j,j<w.heap.size->X' j->X j)(hK:∀j,j<w.heap.size->K j->K' j):rE n0 K' X' w' e size v n cs:=
 ⟨Ro h.row hb hv,fun j hj=>⟨hK j (bV h.row hj).2 (h.blk j hj).1,fun g=>(h.blk j hj).2 (hX2 j (bV h.row hj).2 g)⟩⟩
theorem rE.form {n0 e size n:Nat}{K X:Nat->Prop}{w:World}{v:Value}{cs:List Value}(h:rE n0 K X w e size v n cs):∃p c,v=.slice p n c/\n<=c/\c<=9223372036854775807:=by
 rcases h.row.2 with ⟨h2,h3⟩|⟨g,c,cur,h2,_,_,h3,h4,_⟩
 ·exact⟨none,0,by rw[h2,h3],by omega,by decide⟩
 ·exact⟨_,c,h2,h3,h4⟩
def Nq (u v:Value):Prop:=∀j,u.ownBlock=some j->v.ownBlock≠some j
theorem Nq.symm {u v:Value}(h:Nq u v):Nq v u:=fun j h1 h2=>h j h2 h1
def Pz (w:World)(bp:Nat):Prop:=w.cell? ⟨bp,0,none⟩=some (.int .i64 0)/\w.cell? ⟨bp,1,none⟩=some (.int .i64 26)
theorem Pz.but {F:Nat->Prop}{w w':World}{bp:Nat}(h:Pz w bp)(hb:But F w w')(hF:¬F bp):Pz w' bp:=⟨(hb.cell (p:=⟨bp,0,none⟩) (World.block_lt_of_cell? _ _ h.1) hF).trans h.1,(hb.cell (p:=⟨bp,1,none⟩) (World.block_lt_of_cell? _ _ h.2) hF).trans h.2⟩
theorem Pz.step {w w':World}{bp:Nat}(h:Pz w bp)(hb:Below w.heap.size w w'):Pz w' bp:=h.but (F:=fun _=>False) (.below hb) id
structure Ts (T:Td)(K X:Nat->Prop)(w wr:World)(H:Nat)(d:Dk)(S:Ses)(bp:Nat)(v1 v3 v4:Value)(e1:List Dt)(A:List Int)(P:List Bur.Sp):Prop where
 h:H1 T w K wr H d S
 xk:∀j,X j->K j
 r1:Ef w.heap.size K X wr v1 e1
 r3:rE w.heap.size K X wr 3 1 v3 A.length (inV A)
 r4:rE w.heap.size K X wr 31 2 v4 P.length (pfV P)
 n13:Nq v1 v3
 n14:Nq v1 v4
 n34:Nq v3 v4
 px:X bp
 pz:Pz wr bp
theorem rZ {w w':World}{v:Value}(hg:w.grownBy w' v.ownBlock):But (fun j=>v.ownBlock=some j) w w':=⟨hg.os,hg.tape,hg.output,hg.size,fun k hk hF=>hg.block k hk (fun e=>hF e.symm)⟩
section
variable {T:Td}{K X:Nat->Prop}{w wr w':World}{H bp:Nat}{d d':Dk}{S S':Ses}{v1 v3 v4 v':Value}{e1:List Dt}{A:List Int}{P:List Bur.Sp}
theorem Ts.kn (V:aG T)(h:Ts T K X w wr H d S bp v1 v3 v4 e1 A P)(hb:Below wr.heap.size wr w'):Ts T (Kn K wr w') X w w' H d S bp v1 v3 v4 e1 A P:=
 ⟨h.h.step V hb,fun j hj=>.inl (h.xk j hj),h.r1.but (E:=fun _=>False) (.below hb) (fun _ _=>id) (fun _ _=>id) (fun _ _ g=>g) (fun _ _ g=>g) (fun _ _ g=>.inl g),h.r3.but (E:=fun _=>False) (.below hb) (fun _ _=>id) (fun _ _ g=>g) (fun _ _ g=>.inl g),h.r4.but (E:=fun _=>False) (.below hb) (fun _ _=>id) (fun _ _ g=>g) (fun _ _ g=>.inl g),h.n13,h.n14,h.n34,h.px,h.pz.step hb⟩
theorem Ts.op (h:Ts T K X w wr H d S bp v1 v3 v4 e1 A P)(o:H1 T w K w' H d' S')(hb:But (fun j=>¬K j) wr w'):Ts T K X w w' H d' S' bp v1 v3 v4 e1 A P:=
 ⟨o,h.xk,h.r1.but hb (fun j hj g=>g (h.r1.blk j hj).1) (fun j hj g=>g (h.xk j hj)) (fun _ _ g=>g) (fun _ _ g=>g) (fun _ _ g=>g),h.r3.but hb (fun j hj g=>g (h.r3.blk j hj).1) (fun _ _ g=>g) (fun _ _ g=>g),h.r4.but hb (fun j hj g=>g (h.r4.blk j hj).1) (fun _ _ g=>g) (fun _ _ g=>g),h.n13,h.n14,h.n34,h.px,h.pz.but hb (fun g=>g (h.xk _ h.px))⟩
theorem Ts.ans {u:Value}(h:Ts T K X w wr H d S bp v1 v3 v4 e1 A P)(o:H1 T w (fun j=>K j \/ u.ownBlock=some j) w' H d' S')(hb:But (fun j=>¬K j) wr w')(hu:∀j,u.ownBlock=some j->wr.heap.size<=j):Ts T (fun j=>K j \/ u.ownBlock=some j) (fun j=>X j \/ u.ownBlock=some j) w w' H d' S' bp v1 v3 v4 e1 A P:=by
 have hX:∀j,j<wr.heap.size->(X j \/ u.ownBlock=some j)->X j:=fun j hj g=>g.elim id (fun g=>by have:=hu j g;omega)
 exact⟨o,fun j hj=>hj.imp (h.xk j) id,h.r1.but hb (fun j hj g=>g (h.r1.blk j hj).1) (fun j hj g=>g (h.xk j hj)) (fun _ _ g=>.inl g) hX (fun _ _ g=>.inl g),h.r3.but hb (fun j hj g=>g (h.r3.blk j hj).1) hX (fun _ _ g=>.inl g),h.r4.but hb (fun j hj g=>g (h.r4.blk j hj).1) hX (fun _ _ g=>.inl g),h.n13,h.n14,h.n34,.inl h.px,h.pz.but hb (fun g=>g (h.xk _ h.px))⟩
theorem new_ne {n0 e size n:Nat}{K X:Nat->Prop}{u v0:Value}{cs:List Value}(r:rE n0 K X wr e size u n cs)(h0:Nq v0 u)(hat:v'.ownBlock=v0.ownBlock \/ v'.ownBlock=some wr.heap.size):Nq v' u:=fun j hj g=>by
 rcases hat with g1|g1
 ·exact h0 j (g1.symm.trans hj) g
 ·have e1:wr.heap.size=j:=Option.some.inj (g1.symm.trans hj)
  have:=(bV r.row g).2;omega
theorem Ts.aho (V:aG T)(en:En w){e:Dt}(h:Ts T K X w wr H d S bp v1 v3 v4 e1 A P)(hrow:w'.ownsRow w.heap.size 40 5 v' (e1.length+1) (e1.flatMap dO++dO e))(hg:wr.grownBy w' v1.ownBlock)(hat:v'.ownBlock=v1.ownBlock \/ v'.ownBlock=some wr.heap.size)(he:yP X wr e):Ts T (Kn K wr w') X w w' H d S bp v' v3 v4 (e1 ++ [e]) A P:=by
 have hb:=rZ hg
 have hX:∀j,X j -> ¬v1.ownBlock=some j:=fun j hj g=>(h.r1.blk j g).2 hj
 refine⟨h.h.mine V en hb (fun j hj=>(h.r1.blk j hj).1) (fun j hj=>(bV h.r1.row hj).1),fun j hj=>.inl (h.xk j hj),⟨?_,fun j hj=>?_,fun e' he'=>?_⟩,h.r3.but hb (fun j hj g=>h.n13 j g hj) (fun _ _ g=>g) (fun _ _ g=>.inl g),h.r4.but hb (fun j hj g=>h.n14 j g hj) (fun _ _ g=>g) (fun _ _ g=>.inl g),new_ne h.r3 h.n13 hat,new_ne h.r4 h.n14 hat,h.n34,h.px,h.pz.but hb (fun g=>hX bp h.px g)⟩
 ·simpa using hrow
 ·rcases hat with g|g
  ·have:=h.r1.blk j (g.symm.trans hj)
   exact⟨.inl this.1,this.2⟩
  ·have e1:wr.heap.size=j:=Option.some.inj (g.symm.trans hj)
   exact⟨.inr ⟨by omega,(bV hrow hj).2⟩,fun q=>by have:=h.h.kl j (h.xk j q);omega⟩
 ·rcases List.mem_append.1 he' with g|g
  ·exact (h.r1.each e' g).but hb hX (fun _ _ g=>g)
  ·rw[List.mem_singleton.1 g];exact he.but hb hX (fun _ _ g=>g)
theorem Ua {n0 e size n m:Nat}{v0:Value}{cs ds:List Value}(h:Ts T K X w wr H d S bp v1 v3 v4 e1 A P)(r:rE n0 K X wr e size v0 n cs)(hrow:w'.ownsRow n0 e size v' m ds)(hat:v'.ownBlock=v0.ownBlock \/ v'.ownBlock=some wr.heap.size):rE n0 (Kn K wr w') X w' e size v' m ds:=
 ⟨hrow,fun j hj=>by
  rcases hat with g|g
  ·have:=r.blk j (g.symm.trans hj)
   exact⟨.inl this.1,this.2⟩
  ·have e1:wr.heap.size=j:=Option.some.inj (g.symm.trans hj)
   exact⟨.inr ⟨by omega,(bV hrow hj).2⟩,fun q=>by have:=h.h.kl j (h.xk j q);omega⟩⟩
theorem YG {v0:Value}(h:Ts T K X w wr H d S bp v1 v3 v4 e1 A P)(h0:Nq v1 v0)(hat:v'.ownBlock=v0.ownBlock \/ v'.ownBlock=some wr.heap.size):Nq v1 v':=fun j hj g=>by
 rcases hat with g1|g1
 ·exact h0 j hj (g1.symm.trans g)
 ·have e1:wr.heap.size=j:=Option.some.inj (g1.symm.trans g)
  have:=(bV h.r1.row hj).2;omega
theorem Ts.agZ (V:aG T)(en:En w){a:Int}(h:Ts T K X w wr H d S bp v1 v3 v4 e1 A P)(hrow:w'.ownsRow w.heap.size 3 1 v' (A.length+1) (inV A ++ [.int .i64 a]))(hg:wr.grownBy w' v3.ownBlock)(hat:v'.ownBlock=v3.ownBlock \/ v'.ownBlock=some wr.heap.size):Ts T (Kn K wr w') X w w' H d S bp v1 v' v4 e1 (A ++ [a]) P:=by
 have hb:=rZ hg
 have hX:∀j,X j -> ¬v3.ownBlock=some j:=fun j hj g=>(h.r3.blk j g).2 hj
 have hrow':w'.ownsRow w.heap.size 3 1 v' (A ++ [a]).length (inV (A ++ [a])):=by
  rw[List.length_append]
  unfold inV at hrow ⊢
  rw[List.map_append]
  exact hrow
 exact⟨h.h.mine V en hb (fun j hj=>(h.r3.blk j hj).1) (fun j hj=>(bV h.r3.row hj).1),fun j hj=>.inl (h.xk j hj),h.r1.but hb (fun j hj g=>h.n13 j hj g) hX (fun _ _ g=>g) (fun _ _ g=>g) (fun _ _ g=>.inl g),Ua h h.r3 hrow' hat,h.r4.but hb (fun j hj g=>h.n34 j g hj) (fun _ _ g=>g) (fun _ _ g=>.inl g),YG h h.n13 hat,h.n14,new_ne h.r4 h.n34 hat,h.px,h.pz.but hb (fun g=>hX bp h.px g)⟩
theorem Ts.pushP (V:aG T)(en:En w){p:Bur.Sp}(h:Ts T K X w wr H d S bp v1 v3 v4 e1 A P)(hrow:w'.ownsRow w.heap.size 31 2 v' (P.length+1) (pfV P ++ [.int .i64 p.1,.int .i64 p.2]))(hg:wr.grownBy w' v4.ownBlock)(hat:v'.ownBlock=v4.ownBlock \/ v'.ownBlock=some wr.heap.size):Ts T (Kn K wr w') X w w' H d S bp v1 v3 v' e1 A (P ++ [p]):=by
 have hb:=rZ hg
 have hX:∀j,X j -> ¬v4.ownBlock=some j:=fun j hj g=>(h.r4.blk j g).2 hj
 have hrow':w'.ownsRow w.heap.size 31 2 v' (P ++ [p]).length (pfV (P ++ [p])):=by
  rw[List.length_append]
  unfold pfV at hrow ⊢
  rw[List.flatMap_append]
  exact hrow
 exact⟨h.h.mine V en hb (fun j hj=>(h.r4.blk j hj).1) (fun j hj=>(bV h.r4.row hj).1),fun j hj=>.inl (h.xk j hj),h.r1.but hb (fun j hj g=>h.n14 j hj g) hX (fun _ _ g=>g) (fun _ _ g=>g) (fun _ _ g=>.inl g),h.r3.but hb (fun j hj g=>h.n34 j hj g) (fun _ _ g=>g) (fun _ _ g=>.inl g),Ua h h.r4 hrow' hat,h.n13,YG h h.n14 hat,(new_ne h.r3 h.n34.symm hat).symm,h.px,h.pz.but hb (fun g=>hX bp h.px g)⟩
theorem Ts.swap {n:Nat}{es:List Dt}(h:Ts T K X w wr H d S bp v1 v3 v4 e1 A P)(hrow:wr.ownsRow n 40 5 v' es.length (es.flatMap dO))(hn:w.heap.size<=n)(hK:∀j,n<=j->j<wr.heap.size->K j /\ ¬X j/\v3.ownBlock≠some j/\v4.ownBlock≠some j)(hes:∀e∈es,yP X wr e):Ts T K X w wr H d S bp v' v3 v4 es A P:=
 ⟨h.h,h.xk,⟨bK hn hrow,fun j hj=>⟨(hK j (bV hrow hj).1 (bV hrow hj).2).1,(hK j (bV hrow hj).1 (bV hrow hj).2).2.1⟩,hes⟩,h.r3,h.r4,fun j hj=>(hK j (bV hrow hj).1 (bV hrow hj).2).2.2.1,fun j hj=>(hK j (bV hrow hj).1 (bV hrow hj).2).2.2.2,h.n34,h.px,h.pz⟩
theorem Ts.freeze (V:aG T)(h:Ts T K X w wr H d S bp v1 v3 v4 e1 A P)(hb:Below wr.heap.size wr w'):Ts T (Kn K wr w') (Kn X wr w') w w' H d S bp v1 v3 v4 e1 A P:=by
 have hX:∀j,j<wr.heap.size->Kn X wr w' j->X j:=fun j hj g=>g.elim id (fun g=>by have:=g.1;omega)
 exact⟨h.h.step V hb,fun j hj=>hj.imp (h.xk j) id,h.r1.but (E:=fun _=>False) (.below hb) (fun _ _=>id) (fun _ _=>id) (fun _ _ g=>.inl g) hX (fun _ _ g=>.inl g),h.r3.but (E:=fun _=>False) (.below hb) (fun _ _=>id) hX (fun _ _ g=>.inl g),h.r4.but (E:=fun _=>False) (.below hb) (fun _ _=>id) hX (fun _ _ g=>.inl g),h.n13,h.n14,h.n34,.inl h.px,h.pz.step hb⟩
theorem PY:∀(es:List Dt) (k:Nat) (e:Dt) (a b:Value) (us:List Value) (x:Gk),es[k]? = some e->x.who=e.x.who->((es.flatMap dO).set (k*5+2) a).set (k*5+3) b=(es.set k ⟨x,a,b,us⟩).flatMap dO
 | e0 :: r,0,e,a,b,us,x,h,h1=>by
  cases (Option.some.inj h)
  simp[dO,h1]
 | e0 :: r,k+1,e,a,b,us,x,h,h1=>by
  have:=PY r k e a b us x (by simpa using h) h1
  rw[List.flatMap_cons,List.set_cons_succ,List.flatMap_cons,<- this]
  have hl:(dO e0).length=5:=rfl
  rw[List.set_append_right _ _ (by rw[hl];omega),List.set_append_right _ _ (by rw[hl];omega),hl,show (k+1)*5+2 - 5=k*5+2 from by omega,show (k+1)*5+3 - 5=k*5+3 from by omega]
theorem Tt {l r:List Value}{j:Nat}{u:Value}(h:j<l.length):(l++r).set j u=l.set j u++r:=by
 rw[List.set_append_left _ _ h]
theorem dY (es:List Dt):(es.flatMap dO).length=es.length*5:=jg (k:=5) (fun _=>rfl) es
theorem Ts.put (V:aG T)(en:En w){g n c k:Nat}{va vb:Value}{us:List Value}{e:Dt}{x:Gk}(h:Ts T K X w wr H d S bp (.slice (some ⟨g,0,none⟩) n c) v3 v4 e1 A P)(hk:e1[k]? = some e)(h1:x.who=e.x.who)(he:yP X wr ⟨x,va,vb,us⟩) :
  Ts T (Kn K wr ((wr.setCell ⟨g,k*5+2,none⟩ va).setCell ⟨g,k*5+3,none⟩ vb)) X w ((wr.setCell ⟨g,k*5+2,none⟩ va).setCell ⟨g,k*5+3,none⟩ vb) H d S bp (.slice (some ⟨g,0,none⟩) n c) v3 v4 (e1.set k ⟨x,va,vb,us⟩) A P:=by
 have hb:But (fun j=>j=g) wr ((wr.setCell ⟨g,k*5+2,none⟩ va).setCell ⟨g,k*5+3,none⟩ vb):=by
  have f:∀{W:World},But (fun j=>j=g) wr W -> ∀(o:Nat) (u:Value),But (fun j=>j=g) wr (W.setCell ⟨g,o,none⟩ u):=fun hW o u=>hW.setCell (p:=⟨g,o,none⟩) (.inl rfl) u
  exact f (f (.refl _ _) _ _) _ _
 have hg:=h.r1.blk g rfl
 have hX:∀j,X j -> ¬j=g:=fun j hj e=>hg.2 (e ▸ hj)
 have hn:n=e1.length:=by
  rcases h.r1.row.2 with ⟨h0,_⟩|⟨g',c',cur,h0,_⟩
  ·cases h0
  ·cases h0;rfl
 subst hn
 have hkl:k<e1.length:=(List.getElem?_eq_some_iff.1 hk).1
 obtain⟨rest,hR,hBg,hnc,hmx,hlr⟩:=xw h.r1.row
 have hl5:=dY e1
 refine⟨h.h.mine V en hb (fun j hj=>by rw[hj];exact hg.1) (fun j hj=>by rw[hj];exact (bV h.r1.row rfl).1),fun j hj=>.inl (h.xk j hj),⟨?_,fun j hj=>⟨.inl (h.r1.blk j hj).1,(h.r1.blk j hj).2⟩,fun e' he'=>?_⟩,h.r3.but hb (fun j hj e=>h.n13 j (by rw[e];rfl) hj) (fun _ _ g=>g) (fun _ _ g=>.inl g),h.r4.but hb (fun j hj e=>h.n14 j (by rw[e];rfl) hj) (fun _ _ g=>g) (fun _ _ g=>.inl g),h.n13,h.n14,h.n34,h.px,h.pz.but hb (fun e=>hX bp h.px e)⟩
 ·have hR':=(hR.set (k*5+2) va).set (k*5+3) vb
  rw[Tt (by omega),Tt (by rw[List.length_set];omega),PY e1 k e va vb us x hk h1] at hR'
  rw[List.length_set]
  exact xq hR' (by rw[dY,List.length_set]) hBg hnc hmx (by rw[List.length_append,dY,List.length_set,<- hl5,<- List.length_append];exact hlr)
 ·rcases List.mem_or_eq_of_mem_set he' with g'|g'
  ·exact (h.r1.each e' g').but hb hX (fun _ _ g=>g)
  ·rw[g'];exact he.but hb hX (fun _ _ g=>g)
end
theorem TF:∀(l:List Dt) (i:Nat) (e:Dt),l[i]? = some e->(l.flatMap dO)[i*5]? = some (.string e.x.who)/\(l.flatMap dO)[i*5+1]? = some (.int .i64 0)/\(l.flatMap dO)[i*5+2]? = some e.a/\(l.flatMap dO)[i*5+3]? = some e.b/\(l.flatMap dO)[i*5+4]? = some (.slice none 0 0)
 | y :: r,0,x,h=>by cases (Option.some.inj h);exact⟨rfl,rfl,rfl,rfl,rfl⟩
 | y :: r,i+1,x,h=>by
  have:=TF r i x (by simpa using h)
  rw[List.flatMap_cons]
  have f:∀j,(dO y++r.flatMap dO)[(i+1)*5+j]? = (r.flatMap dO)[i*5+j]? := fun j=>by
   rw[List.getElem?_append_right (by show 5<=_;omega),show (i+1)*5+j - (dO y).length=i*5+j from by show (i+1)*5+j - 5=_;omega]
  exact⟨(f 0).trans this.1,(f 1).trans this.2.1,(f 2).trans this.2.2.1,(f 3).trans this.2.2.2.1,(f 4).trans this.2.2.2.2⟩
theorem Ef.at {n0:Nat}{K X:Nat->Prop}{w:World}{p:Option Addr}{c:Nat}{es:List Dt}(h:Ef n0 K X w (.slice p es.length c) es){i:Nat}{e:Dt}(hi:es[i]? = some e):∃g,p=some ⟨g,0,none⟩/\g<w.heap.size/\K g/\w.cell? ⟨g,i*5,none⟩=some (.string e.x.who)/\w.cell? ⟨g,i*5+1,none⟩=some (.int .i64 0)/\w.cell? ⟨g,i*5+2,none⟩=some e.a/\w.cell? ⟨g,i*5+3,none⟩=some e.b/\w.cell? ⟨g,i*5+4,none⟩=some (.slice none 0 0):=by
 have hlt:=(List.getElem?_eq_some_iff.1 hi).1
 rcases h.row.2 with ⟨_,h0⟩|⟨g,c',cur,h0,_,hg,_⟩
 ·omega
 ·cases h0
  obtain⟨a0,a1,a2,a3,a4⟩:=TF es i e hi
  exact⟨g,rfl,(Array.getElem?_eq_some_iff.1 hg).1,(h.blk g rfl).1,(h.row.cellAt _ (by omega)).trans a0,(h.row.cellAt _ (by omega)).trans a1,(h.row.cellAt _ (by omega)).trans a2,(h.row.cellAt _ (by omega)).trans a3,(h.row.cellAt _ (by omega)).trans a4⟩
structure Tb (w:World)(b:Nat)(e:Dt):Prop where
 c0:w.cell? ⟨b,0,none⟩=some (.string e.x.who)
 c1:w.cell? ⟨b,1,none⟩=some (.int .i64 0)
 c2:w.cell? ⟨b,2,none⟩=some e.a
 c3:w.cell? ⟨b,3,none⟩=some e.b
 c4:w.cell? ⟨b,4,none⟩=some (.slice none 0 0)
theorem Tb.lt {w:World}{b:Nat}{e:Dt}(h:Tb w b e):b<w.heap.size:=World.block_lt_of_cell? _ _ h.c0
theorem Tb.but {F:Nat->Prop}{w w':World}{b:Nat}{e:Dt}(h:Tb w b e)(hb:But F w w')(hF:¬F b):Tb w' b e:=
 ⟨(hb.cell (p:=⟨b,0,none⟩) h.lt hF).trans h.c0,(hb.cell (p:=⟨b,1,none⟩) h.lt hF).trans h.c1,(hb.cell (p:=⟨b,2,none⟩) h.lt hF).trans h.c2,(hb.cell (p:=⟨b,3,none⟩) h.lt hF).trans h.c3,(hb.cell (p:=⟨b,4,none⟩) h.lt hF).trans h.c4⟩
theorem Tb.step {w w':World}{b:Nat}{e:Dt}(h:Tb w b e)(hb:Below w.heap.size w w'):Tb w' b e:=h.but (F:=fun _=>False) (.below hb) id
theorem Tb.new (w:World)(t:Nat)(e:Dt):Tb (w.alloc (.cells #[.string e.x.who,.int .i64 0,e.a,e.b,.slice none 0 0] t)) w.heap.size e:=⟨by simp,by simp,by simp,by simp,by simp⟩
end Go.Proofs.YtmghmpclmphccaaGreatDoor.Pa
namespace Go.Proofs.YtmghmpclmphccaaGreatDoor.Pa
open Go.RowKit Vs
theorem OY {α : Type}[DecidableEq α]{l m:List α}(h1:l.Nodup)(h2:m.Nodup)(h:∀x,x∈l↔x∈m):l.length=m.length:=
 Nat.le_antisymm (eY h1 (fun x hx=>(h x).1 hx)) (eY h2 (fun x hx=>(h x).2 hx))
structure Gq (L:List Pr)(A:List Int)(P:List Bur.Sp):Prop where
 ri:rises L
 au:(Bur.auP L).2=0
 ga:Ga A P
 ex:∃V:ByteArray->Option ByteArray,Gv V A P /\ ∀x,x∈L↔V x.1=some x.2
theorem XO {L:List Pr}{k:Int}(f:Bur.Sp->ByteArray)(hr:rises L)(hf:∀x∈L,∀q,Bur.ek x=some (k,nx.data.toList,q)->x.1=f q):(Bur.pck L k nx.data.toList).Nodup:=by
 induction L with
 | nil=>exact List.Pairwise.nil
 | cons x r ih=>
  obtain⟨h1,h2⟩:=List.pairwise_cons.1 hr
  have ih':=ih h2 (fun y hy=>hf y (List.mem_cons_of_mem _ hy))
  unfold Bur.pck at ih' ⊢
  rw[List.filterMap_cons]
  cases e:Bur.pk1 k nx.data.toList x with
  | none=>exact ih'
  | some q=>
   refine List.nodup_cons.2 ⟨fun hm=>?_,ih'⟩
   obtain⟨y,hy,e2⟩:=List.mem_filterMap.1 hm
   have g1:=hf x (List.mem_cons_self) q (Bur.iP.1 e)
   have g2:=hf y (List.mem_cons_of_mem _ hy) q (Bur.iP.1 e2)
   exact Qk (h1 y hy) (g1.trans g2.symm)
section
variable {L:List Pr}{A:List Int}{P:List Bur.Sp}
theorem Uz {k:Int}{q:Bur.Sp}:q∈Bur.pck L k nx.data.toList ↔ ∃x∈L,Bur.ek x=some (k,nx.data.toList,q):=by
 unfold Bur.pck
 rw[List.mem_filterMap]
 exact⟨fun⟨x,h1,h2⟩=>⟨x,h1,Bur.iP.1 h2⟩,fun⟨x,h1,h2⟩=>⟨x,h1,Bur.iP.2 h2⟩⟩
theorem Gq.pfx (h:Gq L A P):(Bur.pck L 2 nx.data.toList).length=P.length+1/\gp∈Bur.pck L 2 nx.data.toList:=by
 obtain⟨V,gv,hm⟩:=h.ex
 have n1:(Bur.pck L 2 nx.data.toList).Nodup:=XO (kP nx) h.ri (fun x hx q hq=>gv.cap x.1 x.2 q ((hm x).1 hx) hq)
 have hgp:∀q∈P,q≠gp:=fun q hq=>(h.ga.pr q hq).2.2
 have n2:(gp :: P).Nodup:=List.nodup_cons.2 ⟨fun g=>hgp gp g rfl,h.ga.pn.imp (fun {a b} hab e=>by rw[e] at hab;exact hab.irr)⟩
 have mem:∀q,q∈Bur.pck L 2 nx.data.toList↔q∈gp :: P:=fun q=>by
  rw[Uz,List.mem_cons]
  constructor
  ·rintro ⟨x,hx,e⟩
   have hf:Bur.fault q.1 q.2=0:=Bur.iq (Bur.qg e).1
   have g:=gv.cap x.1 x.2 q ((hm x).1 hx) e
   have:=(hm x).1 hx
   rw[g] at this
   exact (gv.pfx q hf).1 (by rw[this];rfl)
  ·intro hq
   have hf:Bur.fault q.1 q.2=0:=by
    rcases hq with g|g
    ·rw[g];exact Uo
    ·exact (h.ga.pr q g).1
   obtain⟨v,hv⟩:=Option.isSome_iff_exists.1 ((gv.pfx q hf).2 hq)
   exact⟨(kP nx q,v),(hm _).2 hv,fQ ql hf⟩
 exact⟨(OY n1 n2 mem).trans (by simp),(mem gp).2 (by simp)⟩
theorem Gq.pfF (h:Gq L A P)(hl:P.length+1<=60):Bur.pfF L nx.data.toList=0/\(Bur.pfT L nx.data.toList).length=P.length+1:=by
 obtain⟨V,gv,hm⟩:=h.ex
 have hn:Bur.xY L nx.data.toList=true:=by
  obtain⟨v,hv⟩:=Option.isSome_iff_exists.1 gv.net
  exact List.any_eq_true.2 ⟨(kN nx,v),(hm _).2 hv,Bur.qP.2 ⟨(0,0),C9 ql,rfl⟩⟩
 have hp:=h.pfx.1
 have e:Bur.pfF L nx.data.toList=0:=by
  unfold Bur.pfF
  rw[if_pos h.au,if_pos hn,if_neg (by omega)]
 exact⟨e,by unfold Bur.pfT;rw[if_pos e];exact hp⟩
theorem U5:∀(u acc:List Int),(acc++u).Nodup->u.foldl Bur.PX acc=acc++u
 | [],acc,_=>by simp
 | x :: r,acc,h=>by
  have hx:x ∉ acc:=fun g=>(List.nodup_append.1 h).2.2 x g x (by simp) rfl
  rw[List.foldl_cons,show Bur.PX acc x=acc ++ [x] from if_neg hx,U5 r (acc ++ [x]) (by rw[List.append_assoc];exact h)]
  simp
theorem Gq.use (h:Gq L A P)(hl:A.length<=200):Bur.ueF L nx.data.toList gp=0/\Bur.ueS L nx.data.toList gp=A.length/\Bur.ueA L nx.data.toList gp=62:=by
 obtain⟨V,gv,hm⟩:=h.ex
 have key:∀{x:Pr} {q:Bur.Sp},x∈L->Bur.ek x=some (3,nx.data.toList,q)->q.1∈A/\q.2=32/\x.1=kA nx q.1:=fun {x q} hx e=>by
  obtain⟨a,g1,g2,g3⟩:=Bur.qw e
  subst g3
  have hA:=Bur.zH g1
  have hf:Bur.fault a 32=0:=by unfold Bur.isA at hA;simp at hA;exact zu (by omega) (by omega)
  have g:=gv.can x.1 x.2 a ((hm x).1 hx) e
  have:=(hm x).1 hx
  rw[g] at this
  exact⟨(gv.adr a hf).1 (by rw[this];rfl),rfl,g⟩
 have n1:(Bur.pck L 3 nx.data.toList).Nodup:=XO (fun q=>kA nx q.1) h.ri (fun x hx q hq=>(key hx hq).2.2)
 have mem:∀q,q∈Bur.pck L 3 nx.data.toList↔q.1∈A/\q.2=32:=fun q=>by
  rw[Uz]
  constructor
  ·rintro ⟨x,hx,e⟩
   exact⟨(key hx e).1,(key hx e).2.1⟩
  ·rintro ⟨hq,h32⟩
   have hf:=Ld h.ga hq
   obtain⟨v,hv⟩:=Option.isSome_iff_exists.1 ((gv.adr q.1 hf).2 hq)
   refine⟨(kA nx q.1,v),(hm _).2 hv,?_⟩
   have:=gJ (n:=nx) ql hf
   rw[show q=(q.1,32) from Prod.ext rfl h32]
   exact this
 have us:Bur.usd L nx.data.toList gp=(Bur.pck L 3 nx.data.toList).map Prod.fst:=by
  unfold Bur.usd
  rw[List.filter_eq_self.2 (fun q hq=>by
   obtain⟨g1,g2⟩:=(mem q).1 hq
   obtain⟨b1,b2⟩:=h.ga.ar _ g1
   rw[g2];exact Bur.GrF.Ya b1 b2)]
 have und:(Bur.usd L nx.data.toList gp).Nodup:=by
  rw[us]
  exact List.pairwise_map.2 (n1.imp_of_mem (fun {a b} ha hb hab e=>hab (Prod.ext e (((mem a).1 ha).2.trans ((mem b).1 hb).2.symm))))
 have umem:∀a,a∈Bur.usd L nx.data.toList gp↔a∈A:=fun a=>by
  rw[us,List.mem_map]
  exact⟨fun⟨q,h1,h2⟩=>h2 ▸ ((mem q).1 h1).1,fun ha=>⟨(a,32),(mem _).2 ⟨ha,rfl⟩,rfl⟩⟩
 have ul:(Bur.usd L nx.data.toList gp).length=A.length:=OY und h.ga.an umem
 have hq:Bur.qF L nx.data.toList gp=true:=(Bur.Oy L _ gp).2 h.pfx.2
 have e:Bur.ueF L nx.data.toList gp=0:=by
  unfold Bur.ueF
  rw[if_pos h.au,if_pos hq,if_neg (by omega)]
 have eu:Bur.usF gp (Bur.usd L nx.data.toList gp)=0:=(Bur.YN h.au hq).2.trans e
 refine⟨e,?_,?_⟩
 ·unfold Bur.ueS
  rw[if_pos e]
  have e1:(Bur.usa gp).1=1:=by decide
  have e2:(Bur.usa gp).2=62:=by decide
  have ht:=Bur.Ze gp (Bur.usd L nx.data.toList gp)
  have tk1:Bur.tk (Bur.usa gp).1 (Bur.usa gp).2 (Bur.usd L nx.data.toList gp)=Bur.usd L nx.data.toList gp:=by
   unfold Bur.tk
   refine List.filter_eq_self.2 (fun a ha=>?_)
   obtain⟨b1,b2⟩:=h.ga.ar a ((umem a).1 ha)
   rw[e1,e2]
   simp;omega
  rw[tk1,U5 _ [] (by simpa using und),List.nil_append,ul] at ht
  exact ht.symm
 ·unfold Bur.ueA
  rw[if_pos e]
  decide
end
theorem Gx.gl {n m:Nat}{d:Dk}{S:Ses}{op:List Gk}{A:List Int}{P:List Bur.Sp}(h:Gx n m d S op A P):Gq (iK d) A P:=by
 have hi:=qE h.hz.dp.ok.tb d.last
 refine⟨?_,by rw[h.hz.au],h.ga,_,h.gv,fun x=>?_⟩
 ·rw[rC];exact hi.1
 ·rw[rC];exact hi.2 x
end Go.Proofs.YtmghmpclmphccaaGreatDoor.Pa
namespace Go.Proofs.YtmghmpclmphccaaGreatDoor.Pa
open Go.RowKit Go.Maps Vs
def cg1:Cl:=⟨1,⟨#[120]⟩,(0,0),0,0,⟨#[111]⟩⟩
def cg2:Cl:=⟨2,⟨#[120]⟩,(0,26),0,0,⟨#[111]⟩⟩
def gd1:Dk:=onD (dk0 100000) cg1
def gd2:Dk:=onD gd1 cg2
theorem afh:onF (dk0 100000) cg1=0:=by decide +kernel
theorem afZ:onF gd1 cg2=0:=by decide +kernel
theorem Uf:(iK gd2).map Prod.fst=[kN nx,kP nx gp]:=by decide +kernel
theorem ags:gd2.op.length=0:=by decide +kernel
theorem YI:Hz 3 gd1:=(Hz.new 100000 (by decide) (by decide)).once cg1
theorem Rk:Hz 6 gd2:=YI.once cg2
theorem MG {k v:ByteArray}(h:bG gd2.vs k gd2.last=some v):k=kN nx \/ k=kP nx gp:=by
 have hi:=qE Rk.dp.ok.tb gd2.last
 have hm:(k,v)∈iK gd2:=by rw[rC];exact (hi.2 (k,v)).2 h
 have:=List.mem_map_of_mem (f:=Prod.fst) hm
 rw[Uf] at this
 rcases List.mem_cons.1 this with g|g
 ·exact .inl g
 ·exact .inr (List.mem_singleton.1 g)
theorem SX {k:ByteArray}(h:k=kN nx \/ k=kP nx gp):(bG gd2.vs k gd2.last).isSome=true:=by
 have hi:=qE Rk.dp.ok.tb gd2.last
 have:k∈(iK gd2).map Prod.fst:=by
  rw[Uf]
  rcases h with g|g
  ·exact List.mem_cons.2 (.inl g)
  ·exact List.mem_cons.2 (.inr (List.mem_singleton.2 g))
 obtain⟨x,hx,rfl⟩:=List.mem_map.1 this
 rw[rC] at hx
 rw[(hi.2 x).1 hx]
 rfl
theorem Ut:Bur.isN nx.data.toList=true:=by decide
theorem OQ {k:ByteArray}(h:(bG gd2.vs k gd2.last).isSome=true):k=kN nx \/ k=kP nx gp:=by
 obtain⟨v,hv⟩:=Option.isSome_iff_exists.1 h
 exact MG hv
theorem afC:Gx 0 6 gd2 [] [] [] []:=by
 have e1:=C9 Ut
 have e2:=fQ Ut Uo
 refine⟨Rk,ags.symm,rfl,fun j x o h=>by simp at h,List.Pairwise.nil,fun j x o h=>by simp at h,⟨List.Pairwise.nil,fun a h=>by simp at h,List.Pairwise.nil,fun q h=>by simp at h⟩,⟨SX (.inl rfl),fun a ha=>⟨fun h=>?_,fun h=>by simp at h⟩,fun k v a hv he=>?_,fun q hq=>⟨fun h=>?_,fun h=>?_⟩,fun k v q hv he=>?_⟩,by decide,fun h=>absurd rfl h⟩
 ·have e3:=gJ Ut ha
  rcases OQ h with g|g
  ·rw[g,e1] at e3;cases e3
  ·rw[g,e2] at e3;cases e3
 ·rcases MG hv with g|g
  ·rw[g,e1] at he;cases he
  ·rw[g,e2] at he;cases he
 ·have e3:=fQ Ut hq
  rcases OQ h with g|g
  ·rw[g,e1] at e3;cases e3
  ·exact .inl (X9 hq Uo g)
 ·rcases h with g|g
  ·exact SX (.inr (by rw[g]))
  ·simp at g
 ·rcases MG hv with g|g
  ·rw[g,e1] at he;cases he
  ·rw[g,e2] at he
   have:gp=q:=congrArg (fun x=>x.2.2) (Option.some.inj he)
   rw[g,this]
