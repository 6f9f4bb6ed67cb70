/- -/
import Derived.Test.YtmghmpclmphccaaGreatDoorGAuB
import Derived.Test.YtmghmpclmphccaaGreatDoorGAppOne
import Derived.Test.YtmghmpclmphccaaGreatDoorGSpWalkA
set_option maxHeartbeats 4000000
set_option maxRecDepth 100000
namespace Bur
theorem Xk (L:List Vs.Pr)(c:Int)(n:List UInt8)(k:Nat)(x:Vs.Pr)(h:L[k]? = some x):pck (L.take (k+1)) c n=pck (L.take k) c n++(pk1 c n x).toList:=by
 unfold pck
 rw[List.take_add_one,h,Option.toList_some,List.filterMap_append]
 cases e:pk1 c n x <;> simp[e]
theorem TL (L:List Vs.Pr)(c:Int)(n:List UInt8)(k:Nat):(pck (L.take k) c n).length<=k:=by
 unfold pck
 refine Nat.le_trans (List.length_filterMap_le _ _) ?_
 simp
 omega
end Bur
namespace Go.Proofs.YtmghmpclmphccaaGreatDoor.Au
open Go.RowKit Go.Maps Pa
open Ta (aU spV gu zi own_below)
theorem afu (V:World)(x l:Int)(t:TypeId):∀j u,[Value.int .i64 x,.int .i64 l][j]? = some u->(V.alloc (.cells #[.int .i64 x,.int .i64 l] t)).cell? ⟨V.heap.size,j,none⟩=some u:=by
 intro j u hj
 match j,hj with
 | 0,hj=>simp at hj;subst hj;simp
 | 1,hj=>simp at hj;subst hj;simp
theorem ahX (a b:List UInt8):((ByteArray.mk a.toArray).toList==(ByteArray.mk b.toArray).toList)=decide (a=b):=by
 rw[Vs.qO]
 exact decide_eq_decide.2 ⟨fun h=>by have:=congrArg (fun z=>z.data.toList) h;simpa using this,fun h=>by rw[h]⟩
theorem ZN (L:List Vs.Pr)(p:Option Addr)(cap:Nat)(c:Int)(n:List UInt8)(w:World)(hp:sH w p L)(hl:L.length<=1000)(hk:∀x∈L,x.1.size<4294967281)(hm:rP w)(hc0:c≠0) :
  Calls Tryz.prog 41 #[.slice p L.length cap,.int .i64 c,.string ⟨n.toArray⟩] w fun e w'=>∃v,e=.returned v/\w'.ownsRow w.heap.size 31 2 v (Bur.pck L c n).length (spV (Bur.pck L c n))/\Below w.heap.size w w':=by
 go_enter Tryz.func41,Tryz.ntmps41
 go_wp2
 go_loopw [7,14] (fun v a wr=>∃(k:Nat) (r:List Bur.Sp),k<=L.length/\a=.int .i64 k/\r.length<=k/\Hid (r=Bur.pck (L.take k) c n)/\wr.ownsRow w.heap.size 31 2 v r.length (spV r)/\Below w.heap.size w wr) (fun _ a _=>L.length - (intOf a).toNat)
 case atStart=>exact⟨0,[],by omega,rfl,by simp,(by show _=_;rfl),World.ownsRow_nil _ _ _ _,ah _⟩
 case round=>
  obtain⟨k,r,hkl,rfl,hrk,hM,hrow,hb⟩:=hrel
  by_cases hlt:k<L.length
  ·have hlt':(k:Int)<(L.length:Int):=by omega
   obtain⟨x,hx⟩:∃x,L[k]? = some x:=⟨L[k],List.getElem?_eq_getElem hlt⟩
   obtain⟨b,off,rfl,hbl,hc⟩:=(hp.step hb) (by omega)
   obtain⟨d0,d1⟩:=hc k x hx
   have hkx:=hk x (List.mem_of_getElem? hx)
   have hst:=Bur.Xk L c n k x hx
   obtain⟨W,hW⟩:∃W,W=wr.alloc (.cells #[.string x.1,.string x.2] 84):=⟨_,rfl⟩
   have bW:Below wr.heap.size wr W:=by rw[hW];exact aj (ah _) _
   have rowW:=hrow.alloc (.cells #[.string x.1,.string x.2] 84)
   rw[<- hW] at rowW
   have KR:=QN x.1.data.toList W (by have:x.1.data.toList.length=x.1.size:=Array.length_toList
                                     omega) (hm.step (ak hb bW))
   rw[show (⟨x.1.data.toList.toArray⟩:ByteArray)=x.1 from by cases x.1;simp] at KR
   have KR':Calls Tryz.prog 68 #[.string x.1] W fun e w'=>e=.returned (.tuple #[enA (Bur.ek x),enE (Bur.ek x)])/\Below W.heap.size W w':=KR
   clear KR
   cases hE:Bur.ek x with
   | none=>
    rw[hE] at KR'
    have KR2:Calls Tryz.prog 68 #[.string x.1] W fun e w'=>e=.returned (.tuple #[.agg #[.int .i64 0,.string ⟨#[]⟩,.int .i64 0,.int .i64 0],aC 5])/\Below W.heap.size W w':=KR'
    have t1:Bur.pk1 c n x=none:=by unfold Bur.pk1;rw[hE]
    rw[t1,Option.toList_none,List.append_nil,<- hM.out] at hst
    have hM2:Hid (r=Bur.pck (L.take (k+1)) c n):=hst.symm
    clear hst hM KR' t1 hE hc hx
    go_wp2_with (go_at_call 68;rw[<- hW];refine KR2.mono ?_;clear KR2;rintro e w3 ⟨rfl,hb3⟩)
    have hb4:=aj hb3 (.cells #[.int .i64 0,.string ⟨#[]⟩,.int .i64 0,.int .i64 0] 142)
    exact⟨⟨k+1,r,by omega,by go_num,by omega,hM2,own_below rowW hb4,ak (ak hb bW) hb4⟩,by simp[intOf];omega⟩
   | some e=>
    obtain⟨kd,m,q⟩:=e
    rw[hE] at KR'
    have KR2:Calls Tryz.prog 68 #[.string x.1] W fun e w'=>e=.returned (.tuple #[.agg #[.int .i64 kd,.string ⟨m.toArray⟩,.int .i64 q.1,.int .i64 q.2],.nilIface])/\Below W.heap.size W w':=KR'
    clear KR'
    by_cases c1:kd=c
    ·by_cases c2:m=n
     ·subst c1
      subst c2
      have t1:Bur.pk1 kd m x=some q:=Bur.iP.2 hE
      rw[t1,Option.toList_some,<- hM.out] at hst
      have hM2:Hid (r ++ [q]=Bur.pck (L.take (k+1)) kd m):=hst.symm
      have hs1:((ByteArray.mk m.toArray).toList==(ByteArray.mk m.toArray).toList)=true:=by simp
      have hk1:(kd==kd)=true:=by simp
      clear hst hM t1 hE hc hx
      go_wp2_with (first
       | (go_at_call 68;rw[<- hW];refine KR2.mono ?_;clear KR2;rintro e w3 ⟨rfl,hb3⟩;have hb4:=aj hb3 (.cells #[.int .i64 kd,.string ⟨m.toArray⟩,.int .i64 q.1,.int .i64 q.2] 142);have row4:=own_below rowW hb4;have bb4:=ak (ak hb bW) hb4;have hs4:=bb4.size;have hs5:w.heap.size<=w3.heap.size:=(ak (ak hb bW) hb3).size)
       | (at_builtin;refine bf 44 31 2 16 _ Tryz.underlying44 zi rfl (by decide) (by decide) rfl _ _ rfl w.heap.size _ r.length (spV r) rfl (row4.alloc _) (by simp;omega) _ [.int .i64 q.1,.int .i64 q.2] rfl rfl (fun j u hj=>by have:=afu (w3.alloc (.cells #[.int .i64 kd,.string ⟨m.toArray⟩,.int .i64 q.1,.int .i64 q.2] 142)) q.1 q.2 31 j u hj;simpa using this) (fun u hu=>by simp at hu;rcases hu with rfl|rfl <;> rfl) (by omega) ?_;intro v5 w5 own5 hg5;have hb5:Below w.heap.size w w5:=(bb4.alloc (by simp;omega) _).grown hg5 (by simp;omega) (fun j hj=>(row4.lt j hj).1)))
      have own6:w5.ownsRow w.heap.size 31 2 v5 (r ++ [q]).length (spV (r ++ [q])):=by
       rw[List.length_append,show spV (r ++ [q])=spV r ++ [.int .i64 q.1,.int .i64 q.2] from by simp[spV]]
       exact own5
      exact⟨⟨k+1,r ++ [q],by omega,by go_num,by simp;omega,hM2,own6,hb5⟩,by simp[intOf];omega⟩
     ·subst c1
      have t1:Bur.pk1 kd n x=none:=by unfold Bur.pk1;rw[hE];exact if_neg (fun g=>c2 g.2)
      rw[t1,Option.toList_none,List.append_nil,<- hM.out] at hst
      have hM2:Hid (r=Bur.pck (L.take (k+1)) kd n):=hst.symm
      have hs1:((ByteArray.mk m.toArray).toList==(ByteArray.mk n.toArray).toList)=false:=by rw[ahX];exact decide_eq_false c2
      have hs2:(m==n)=false:=beq_eq_false_iff_ne.2 c2
      have hk1:(kd==kd)=true:=by simp
      clear hst hM t1 hE hc hx
      go_wp2_with (go_at_call 68;rw[<- hW];refine KR2.mono ?_;clear KR2;rintro e w3 ⟨rfl,hb3⟩)
      have hb4:=aj hb3 (.cells #[.int .i64 kd,.string ⟨m.toArray⟩,.int .i64 q.1,.int .i64 q.2] 142)
      exact⟨⟨k+1,r,by omega,by go_num,by omega,hM2,own_below rowW hb4,ak (ak hb bW) hb4⟩,by simp[intOf];omega⟩
    ·have t1:Bur.pk1 c n x=none:=by unfold Bur.pk1;rw[hE];exact if_neg (fun g=>c1 g.1)
     rw[t1,Option.toList_none,List.append_nil,<- hM.out] at hst
     have hM2:Hid (r=Bur.pck (L.take (k+1)) c n):=hst.symm
     have hk1:(kd==c)=false:=beq_eq_false_iff_ne.2 c1
     clear hst hM t1 hE hc hx
     go_wp2_with (go_at_call 68;rw[<- hW];refine KR2.mono ?_;clear KR2;rintro e w3 ⟨rfl,hb3⟩)
     have hb4:=aj hb3 (.cells #[.int .i64 kd,.string ⟨m.toArray⟩,.int .i64 q.1,.int .i64 q.2] 142)
     exact⟨⟨k+1,r,by omega,by go_num,by omega,hM2,own_below rowW hb4,ak (ak hb bW) hb4⟩,by simp[intOf];omega⟩
  ·have hlt':¬(k:Int)<(L.length:Int):=by omega
   have hE:Hid (r=Bur.pck L c n):=by
    have:=hM.out
    rw[List.take_of_length_le (by omega)] at this
    exact this
   clear hM
   go_wp2
   go_ret
   exact⟨_,rfl,by rw[<- hE.out];exact hrow,hb⟩
end Go.Proofs.YtmghmpclmphccaaGreatDoor.Au
namespace Bur
theorem aeU {L:List Vs.Pr}(h:(auP L).2=0)(n:List UInt8)(a:Int)(ha:a=if xY L n=true then 0 else 4):fnz [a,NQ (pck L 2 n)]=pfF L n:=by
 unfold pfF
 rw[if_pos h,XK h n,ha]
 by_cases h1:xY L n=true
 ·rw[if_pos h1,if_pos h1]
  by_cases h2:60<(pck L 2 n).length
  ·simp[fnz,h2]
  ·simp[fnz,h2]
 ·rw[if_neg h1,if_neg h1]
  simp[fnz]
end Bur
namespace Go.Proofs.YtmghmpclmphccaaGreatDoor.Au
open Go.RowKit Go.Maps Pa
open Ta (aU spV gu zi Zd own_below)
theorem aA {w:World}{B e size n:Nat}{v:Value}{xs:List Value}(h:w.ownsRow B e size v n xs):∃p cp,v=.slice p n cp:=by
 rcases h.2 with ⟨rfl,h1⟩|⟨g,cap,cur,rfl,_⟩
 ·rw[h1];exact⟨none,0,rfl⟩
 ·exact⟨some ⟨g,0,none⟩,cap,rfl⟩
theorem VD (w:World)(t:Nat)(a b:Int):∀(i:Nat) (f:Int),[a,b][i]? = some f->(w.alloc (.cells #[ev a,ev b] t)).cell? ⟨w.heap.size,i,none⟩=some (ev f)
 | 0,f,h=>by simp at h;subst h;simp
 | 1,f,h=>by simp at h;subst h;simp
 | i+2,f,h=>by simp at h
theorem QI (L:List Vs.Pr)(p:Option Addr)(cap:Nat)(n:List UInt8)(w:World)(hp:sH w p L)(hl:L.length<=1000)(hk:∀x∈L,x.1.size<4294967281)(hm:rP w)(hn:n.length<=maxLen) :
  Calls Tryz.prog 19 #[.slice p L.length cap,.string ⟨n.toArray⟩] w fun e w'=>∃v,e=.returned (.tuple #[v,ev (Bur.pfF L n)])/\w'.ownsRow w.heap.size 31 2 v (Bur.pfT L n).length (spV (Bur.pfT L n))/\Below w.heap.size w w':=by
 have K1:=Y9 L p cap w hp hl hk hm
 have K2:=fun a b W hb hg=>PK L p cap a b W hg (hp.step hb) hl hk (hm.step hb)
 have K3:=fun W hb=>ZN L p cap 2 n W (hp.step hb) hl hk (hm.step hb) (by decide)
 unfold sgV at K1 K2
 by_cases h0:(Bur.auP L).2=0
 ·have K4:=fun a b W (hg:Sg W a b L)=>Lm hg hn
  have hF:=Bur.aeU h0 n (fnF L n) rfl
  have hT:Bur.pfF L n=0->Bur.pfT L n=Bur.pck L 2 n:=fun q=>if_pos q
  have hT':Bur.pfF L n≠0->Bur.pfT L n=[]:=fun q=>if_neg q
  have hlen:=Bur.TL L 2 n L.length
  rw[List.take_length] at hlen
  unfold sgV at K4
  rw[h0,aB] at K2
  generalize (Bur.auP L).1=i at K2
  generalize Bur.pck L 2 n=P at K3 hF hT hlen
  generalize fnF L n=F1 at K4 hF
  have K5:=fun (q:Option Addr) (c:Nat) (W:World) hs=>Zd q c P W (by omega) hs
  generalize Bur.NQ P=F2 at K5 hF
  have K6:=fun (W':World)=>Vh [F1,F2] W'.heap.size 2 (W'.alloc (.cells #[ev F1,ev F2] 26)) (VD W' _ F1 F2) (by simp)
  obtain⟨V1,E1,C1⟩:=jf F1
  obtain⟨V2,E2,C2⟩:=jf F2
  unfold Value.cells at C1 C2
  rw[<- E1.out] at K4
  rw[<- E2.out] at K5
  rw[<- E1.out,<- E2.out,hF] at K6
  generalize Bur.pfT L n=T at hT hT' ⊢
  generalize Bur.pfF L n=G at hT hT' K6 ⊢
  clear hF h0
  by_cases hG:G=0
  ·subst hG
   obtain rfl:=hT rfl
   rw[aB] at K6 ⊢
   clear hT hT'
   go_enter Tryz.func19,Tryz.ntmps19
   go_wp2_with (first
    | (go_at_call 38;refine K1.mono ?_;clear K1;rintro e w1 ⟨a,b,rfl,hg,hb1⟩;have bA:=aj (ah w1) (.cells #[.map (some a),.map (some b)] 91);have hg1:=hg.step bA;have s0:(w1.alloc (.cells #[.map (some a),.map (some b)] 91)).cell? ⟨w1.heap.size,0,none⟩=some (.map (some a)):=(by simp);have s1:(w1.alloc (.cells #[.map (some a),.map (some b)] 91)).cell? ⟨w1.heap.size,1,none⟩=some (.map (some b)):=(by simp);have bB:=ak hb1 bA)
    | (go_at_call 39;refine (K2 a b _ bB hg1).mono ?_;rintro e w2 ⟨rfl,hb2⟩;have hg2:=hg1.step hb2;have bC:=ak bB hb2;have s02:=(hb2.cell (p:=⟨w1.heap.size,0,none⟩) (by simp)).trans s0;have s12:=(hb2.cell (p:=⟨w1.heap.size,1,none⟩) (by simp)).trans s1)
    | (go_at_call 41;refine (K3 _ bC).mono ?_;rintro e w3 ⟨v,rfl,row3,hb3⟩;obtain⟨q,c,rfl⟩:=aA row3;have hg3:=hg2.step hb3;have bD:=ak bC hb3;have s03:=(hb3.cell (p:=⟨w1.heap.size,0,none⟩) (World.block_lt_of_cell? _ _ s02)).trans s02;have s13:=(hb3.cell (p:=⟨w1.heap.size,1,none⟩) (World.block_lt_of_cell? _ _ s12)).trans s12)
    | (go_at_call 44;refine (K4 a b _ hg3).mono ?_;rintro e w4 ⟨rfl,hb4⟩;have row4:=own_below row3 hb4;have bE:=ak bD hb4)
    | (go_at_call 45;refine (K5 q c _ (gu row4).2).mono ?_;rintro e w5 ⟨rfl,hb5⟩;have row5:=own_below row4 hb5;have bF:=ak bE hb5)
    | (go_at_call 43;refine (K6 _).mono ?_;rintro e w6 ⟨rfl,rfl⟩))
   go_ret2
   exact⟨_,rfl,bK bC.size (own_below row5 (aj (ah _) _)),aj bF _⟩
  ·obtain rfl:=hT' hG
   rw[ay hG] at K6 ⊢
   clear hT hT' hG
   go_enter Tryz.func19,Tryz.ntmps19
   go_wp2_with (first
    | (go_at_call 38;refine K1.mono ?_;clear K1;rintro e w1 ⟨a,b,rfl,hg,hb1⟩;have bA:=aj (ah w1) (.cells #[.map (some a),.map (some b)] 91);have hg1:=hg.step bA;have s0:(w1.alloc (.cells #[.map (some a),.map (some b)] 91)).cell? ⟨w1.heap.size,0,none⟩=some (.map (some a)):=(by simp);have s1:(w1.alloc (.cells #[.map (some a),.map (some b)] 91)).cell? ⟨w1.heap.size,1,none⟩=some (.map (some b)):=(by simp);have bB:=ak hb1 bA)
    | (go_at_call 39;refine (K2 a b _ bB hg1).mono ?_;rintro e w2 ⟨rfl,hb2⟩;have hg2:=hg1.step hb2;have bC:=ak bB hb2;have s02:=(hb2.cell (p:=⟨w1.heap.size,0,none⟩) (by simp)).trans s0;have s12:=(hb2.cell (p:=⟨w1.heap.size,1,none⟩) (by simp)).trans s1)
    | (go_at_call 41;refine (K3 _ bC).mono ?_;rintro e w3 ⟨v,rfl,row3,hb3⟩;obtain⟨q,c,rfl⟩:=aA row3;have hg3:=hg2.step hb3;have bD:=ak bC hb3;have s03:=(hb3.cell (p:=⟨w1.heap.size,0,none⟩) (World.block_lt_of_cell? _ _ s02)).trans s02;have s13:=(hb3.cell (p:=⟨w1.heap.size,1,none⟩) (World.block_lt_of_cell? _ _ s12)).trans s12)
    | (go_at_call 44;refine (K4 a b _ hg3).mono ?_;rintro e w4 ⟨rfl,hb4⟩;have row4:=own_below row3 hb4;have bE:=ak bD hb4)
    | (go_at_call 45;refine (K5 q c _ (gu row4).2).mono ?_;rintro e w5 ⟨rfl,hb5⟩;have row5:=own_below row4 hb5;have bF:=ak bE hb5)
    | (go_at_call 43;refine (K6 _).mono ?_;rintro e w6 ⟨rfl,rfl⟩))
   go_ret2
   exact⟨_,rfl,World.ownsRow_nil _ _ _ _,aj bF _⟩
 ·have hF:Bur.pfF L n=(Bur.auP L).2:=if_neg h0
  have hT:Bur.pfT L n=[]:=if_neg (by rw[hF];exact h0)
  rw[hF,hT]
  rw[ay h0]
  rw[ay h0] at K2
  generalize (Bur.auP L).1=i at K2
  generalize (Bur.auP L).2=G at K2 ⊢
  clear hF hT h0 K3
  go_enter Tryz.func19,Tryz.ntmps19
  go_wp2_with (first
   | (go_at_call 38;refine K1.mono ?_;clear K1;rintro e w1 ⟨a,b,rfl,hg,hb1⟩;have bA:=aj (ah w1) (.cells #[.map (some a),.map (some b)] 91);have hg1:=hg.step bA;have bB:=ak hb1 bA)
   | (go_at_call 39;refine (K2 a b _ bB hg1).mono ?_;rintro e w2 ⟨rfl,hb2⟩;have bC:=ak bB hb2))
  go_ret2
  exact⟨_,rfl,World.ownsRow_nil _ _ _ _,bC⟩
end Go.Proofs.YtmghmpclmphccaaGreatDoor.Au
namespace Bur
def ueS (L:List Vs.Pr)(n:List UInt8)(p:Sp):Int:=if ueF L n p=0 then shp p (usd L n p) else 0
def ueA (L:List Vs.Pr)(n:List UInt8)(p:Sp):Int:=if ueF L n p=0 then alp p else 0
def uw (p:Sp)(P:List Sp):List Int:=(P.filter fun q=>dQ q.1 q.2 p.1 p.2).map Prod.fst
theorem abv (p:Sp)(P:List Sp)(k:Nat)(x:Sp)(h:P[k]? = some x):uw p (P.take (k+1))=uw p (P.take k)++(if dQ x.1 x.2 p.1 p.2=true then [x.1] else []):=by
 unfold uw
 rw[List.take_add_one,h,Option.toList_some,List.filter_append,List.map_append]
 congr 1
 by_cases g:dQ x.1 x.2 p.1 p.2=true
 ·simp[g]
 ·simp[g]
theorem aeC {a l b m:Int}(h:dQ a l b m=true):DL a l b m=0:=by
 unfold dQ at h
 simp only [Bool.and_eq_true,decide_eq_true_eq] at h
 exact h.1
end Bur
namespace Go.Proofs.YtmghmpclmphccaaGreatDoor.Au
open Go.RowKit Go.Maps Pa
open Ta (aU spV gu own_below lo hi)
open Ha (rD inV Ui yT share)
theorem ZL {P:List Bur.Sp}{k:Nat}{x:Bur.Sp}(h:P[k]? = some x):lo P k=x.1/\hi P k=x.2:=by
 simp[lo,hi,List.getD_eq_getElem?_getD,h]
theorem one_cell (V:World)(a:Value)(t:TypeId):∀j u,[a][j]? = some u->(V.alloc (.cells #[a] t)).cell? ⟨V.heap.size,j,none⟩=some u:=by
 intro j u hj
 match j,hj with
 | 0,hj=>simp at hj;subst hj;simp
theorem ag2 (L:List Vs.Pr)(p:Option Addr)(cap:Nat)(n:List UInt8)(x l:Int)(w:World)(hp:sH w p L)(hl:L.length<=1000)(hk:∀x∈L,x.1.size<4294967281)(hm:rP w)(hn:n.length<=maxLen)(hx:I64 x)(hI:I64 l) :
  Calls Tryz.prog 18 #[.slice p L.length cap,.string ⟨n.toArray⟩,pfx x l] w fun e w'=>e=.returned (.tuple #[.int .i64 (Bur.ueS L n (x,l)),.int .i64 (Bur.ueA L n (x,l)),ev (Bur.ueF L n (x,l))])/\Below w.heap.size w w':=by
 have b0:=aj (ah w) (.cells #[.int .i64 x,.int .i64 l] 31)
 have bx0:=Bx.new w 31 x l
 have K1:=Y9 L p cap (w.alloc (.cells #[.int .i64 x,.int .i64 l] 31)) (hp.step b0) hl hk (hm.step b0)
 have K2:=fun a b W hb hg=>PK L p cap a b W hg (hp.step hb) hl hk (hm.step hb)
 have K3:=fun W hb=>ZN L p cap 3 n W (hp.step hb) hl hk (hm.step hb) (by decide)
 unfold sgV at K1 K2
 by_cases h0:(Bur.auP L).2=0
 ·have K4:=fun a b W (hg:Sg W a b L)=>adw hg (n:=n) (x:=x) (l:=l) ⟨hn,hx,hI⟩
  unfold sgV at K4
  rw[h0,aB] at K2
  generalize (Bur.auP L).1=i at K2
  by_cases hq:Bur.qF L n (x,l)=true
  ·obtain⟨hf,hus⟩:=Bur.YN h0 hq
   rw[hq] at K4
   have hlen:=Bur.TL L 3 n L.length
   rw[List.take_length] at hlen
   have eU:Bur.usd L n (x,l)=Bur.uw (x,l) (Bur.pck L 3 n):=rfl
   have eS:Bur.ueS L n (x,l)=Bur.shS (x,l) (Bur.uw (x,l) (Bur.pck L 3 n)):=by
    unfold Bur.ueS Bur.shS
    rw[<- eU,hus]
   have eA:Bur.ueA L n (x,l)=Bur.shA (x,l) (Bur.uw (x,l) (Bur.pck L 3 n)):=by
    unfold Bur.ueA Bur.shA
    rw[<- eU,hus]
   rw[eS,eA,<- hus,eU]
   generalize Bur.pck L 3 n=P at K3 hlen ⊢
   clear eU eS eA hus hf hq h0
   have K6:=fun (q:Option Addr) (c:Nat) (u:List Int) (W:World) (hlu:u.length<=1000) hu=>share x l u q c W (by omega) hu
   have K5:=fun (a b:Int) (W:World)=>yD a b x l W
   go_enter Tryz.func18,Tryz.ntmps18
   go_wp2_with (first
    | (go_at_call 38;refine K1.mono ?_;clear K1;rintro e w1 ⟨a,b,rfl,hg,hb1⟩;have bA:=aj (ah w1) (.cells #[.map (some a),.map (some b)] 91);have hg1:=hg.step bA;have s0:(w1.alloc (.cells #[.map (some a),.map (some b)] 91)).cell? ⟨w1.heap.size,0,none⟩=some (.map (some a)):=(by simp);have s1:(w1.alloc (.cells #[.map (some a),.map (some b)] 91)).cell? ⟨w1.heap.size,1,none⟩=some (.map (some b)):=(by simp);have bB:=ak (ak b0 hb1) bA;have bx1:=(bx0.step hb1).step bA)
    | (go_at_call 39;refine (K2 a b _ bB hg1).mono ?_;rintro e w2 ⟨rfl,hb2⟩;have hg2:=hg1.step hb2;have bC:=ak bB hb2;have s02:=(hb2.cell (p:=⟨w1.heap.size,0,none⟩) (by simp)).trans s0;have s12:=(hb2.cell (p:=⟨w1.heap.size,1,none⟩) (by simp)).trans s1;have bx2:=bx1.step hb2;have c0:=bx2.c0;have c1:=bx2.c1)
    | (go_at_call 40;refine (K4 a b _ hg2).mono ?_;rintro e w3 ⟨rfl,hb3⟩;have bD:=ak bC hb3;have bx3:=bx2.step hb3)
    | (go_at_call 41;refine (K3 _ bD).mono ?_;rintro e w4 ⟨v,rfl,row4,hb4⟩;obtain⟨q,c,rfl⟩:=aA row4;have bE:=ak bD hb4;have bx4:=bx3.step hb4))
   have sp4:=(gu row4).2
   clear c0 c1 s0 s1 s02 s12 bx0 bx1 bx2 bx3 K2 K3 K4 row4 hg hg1 hg2 hb1 hb2 hb3 hb4 bA bB bC bD b0
   go_loopw [12,39] (fun v a wr=>∃(k:Nat) (r:List Int),k<=P.length/\a=.int .i64 k/\r.length<=k/\Hid (r=Bur.uw (x,l) (P.take k))/\wr.ownsRow w4.heap.size 3 1 v r.length (inV r)/\Below w4.heap.size w4 wr) (fun _ a _=>P.length - (intOf a).toNat)
   case atStart=>exact⟨0,[],by omega,rfl,by simp,(by show _=_;rfl),World.ownsRow_nil _ _ _ _,ah _⟩
   case round=>
    obtain⟨k,r,hkl,rfl,hrk,hM,hrow,hb⟩:=hrel
    have bxr:=bx4.step hb
    have c0:=bxr.c0
    have c1:=bxr.c1
    by_cases hlt:k<P.length
    ·have hlt':(k:Int)<(P.length:Int):=by omega
     obtain⟨y,hy⟩:∃y,P[k]? = some y:=⟨P[k],List.getElem?_eq_getElem hlt⟩
     obtain⟨B,off,rfl,hbl,hc⟩:=(sp4.step hb) (by omega)
     obtain⟨d0,d1⟩:=hc k hlt
     rw[(ZL hy).1] at d0
     rw[(ZL hy).2] at d1
     have hst:=Bur.abv (x,l) P k y hy
     have KW:=K5 y.1 y.2 (wr.alloc (.cells #[.int .i64 y.1,.int .i64 y.2] 31))
     have bW:=aj (ah wr) (.cells #[.int .i64 y.1,.int .i64 y.2] 31)
     have hszr:=hb.size
     have hwr:w.heap.size<wr.heap.size:=bxr.lt
     have c0':=(bxr.step bW).c0
     have c1':=(bxr.step bW).c1
     have g0:(wr.alloc (.cells #[.int .i64 y.1,.int .i64 y.2] 31)).cell? ⟨wr.heap.size,0,none⟩=some (.int .i64 y.1):=by simp
     cases hB:Bur.dQ y.1 y.2 x l with
     | true=>
      rw[hB,Bur.aeC hB,aB] at KW
      have hst:Bur.uw (x,l) (P.take (k+1))=Bur.uw (x,l) (P.take k) ++ [y.1]:=by rw[hst];exact congrArg _ (if_pos hB)
      rw[<- hM.out] at hst
      have hM2:Hid (r ++ [y.1]=Bur.uw (x,l) (P.take (k+1))):=hst.symm
      clear hst hM hB hc hy K5
      go_wp2_with (first
       | (go_at_call 17;refine KW.mono ?_;clear KW;rintro e w5 ⟨rfl,hb5⟩;have g05:=(hb5.cell (p:=⟨wr.heap.size,0,none⟩) (by simp)).trans g0;have row5:=own_below hrow (ak bW hb5);have bb5:=ak (ak hb bW) hb5;have hs5:=bb5.size)
       | (at_builtin;refine bf 57 3 1 8 _ Tryz.underlying57 Ui rfl (by decide) (by decide) rfl _ _ rfl w4.heap.size _ r.length (inV r) rfl (row5.alloc _) (by simp;omega) _ [.int .i64 y.1] rfl rfl (one_cell _ _ _) (fun u hu=>by rw[List.mem_singleton.1 hu];rfl) (by omega) ?_;intro v6 w6 own6 hg6;have hb6:Below w4.heap.size w4 w6:=(bb5.alloc hs5 _).grown hg6 (by simp;omega) (fun j hj=>(row5.lt j hj).1)))
      have own7:w6.ownsRow w4.heap.size 3 1 v6 (r ++ [y.1]).length (inV (r ++ [y.1])):=by
       rw[List.length_append,show inV (r ++ [y.1])=inV r ++ [.int .i64 y.1] from by simp[inV]]
       exact own6
      exact⟨⟨k+1,r ++ [y.1],by omega,by go_num,by simp;omega,hM2,own7,hb6⟩,by simp[intOf];omega⟩
     | false=>
      rw[hB] at KW
      have hst:Bur.uw (x,l) (P.take (k+1))=Bur.uw (x,l) (P.take k):=by rw[hst,show (if Bur.dQ y.1 y.2 (x,l).1 (x,l).2=true then [y.1] else [])=[] from if_neg (by show ¬Bur.dQ y.1 y.2 x l=true;rw[hB];decide),List.append_nil]
      rw[<- hM.out] at hst
      have hM2:Hid (r=Bur.uw (x,l) (P.take (k+1))):=hst.symm
      generalize ev (Bur.DL y.1 y.2 x l)=EV at KW
      clear hst hM hB hc hy K5
      go_wp2_with (go_at_call 17;refine KW.mono ?_;clear KW;rintro e w5 ⟨rfl,hb5⟩)
      exact⟨⟨k+1,r,by omega,by go_num,by omega,hM2,own_below hrow (ak bW hb5),ak (ak hb bW) hb5⟩,by simp[intOf];omega⟩
    ·have hlt':¬(k:Int)<(P.length:Int):=by omega
     have hE:Hid (r=Bur.uw (x,l) P):=by
      have:=hM.out
      rw[List.take_of_length_le (by omega)] at this
      exact this
     obtain⟨q2,c2,rfl⟩:=aA hrow
     have KS:=K6 q2 c2 r wr (by omega) (yT hrow).2
     obtain⟨EV,hEV⟩:∃EV,Hid (EV=ev (Bur.usF (x,l) r)):=⟨_,rfl⟩
     rw[<- hEV.out] at KS
     obtain⟨A1,hA1⟩:∃A1,Hid (A1=Bur.shS (x,l) r):=⟨_,rfl⟩
     rw[<- hA1.out] at KS
     obtain⟨A2,hA2⟩:∃A2,Hid (A2=Bur.shA (x,l) r):=⟨_,rfl⟩
     rw[<- hA2.out] at KS
     clear hM
     go_wp2_with (go_at_call 42;refine KS.mono ?_;clear KS;rintro e w5 ⟨rfl,hb5⟩)
     go_ret3
     exact⟨by rw[<- hE.out,<- hA1.out,<- hA2.out,<- hEV.out];rfl,ak (ak bE hb) hb5⟩
  ·have hq:Bur.qF L n (x,l)=false:=by simpa using hq
   have hF:Bur.ueF L n (x,l)=4:=by unfold Bur.ueF;rw[if_pos h0,hq];rfl
   rw[show Bur.ueS L n (x,l)=0 from if_neg (by rw[hF];decide),show Bur.ueA L n (x,l)=0 from if_neg (by rw[hF];decide),hF,ay (by decide)]
   rw[hq] at K4
   clear hF hq h0 K3
   go_enter Tryz.func18,Tryz.ntmps18
   go_wp2_with (first
    | (go_at_call 38;refine K1.mono ?_;clear K1;rintro e w1 ⟨a,b,rfl,hg,hb1⟩;have bA:=aj (ah w1) (.cells #[.map (some a),.map (some b)] 91);have hg1:=hg.step bA;have s0:(w1.alloc (.cells #[.map (some a),.map (some b)] 91)).cell? ⟨w1.heap.size,0,none⟩=some (.map (some a)):=(by simp);have s1:(w1.alloc (.cells #[.map (some a),.map (some b)] 91)).cell? ⟨w1.heap.size,1,none⟩=some (.map (some b)):=(by simp);have bB:=ak (ak b0 hb1) bA;have bx1:=(bx0.step hb1).step bA)
    | (go_at_call 39;refine (K2 a b _ bB hg1).mono ?_;rintro e w2 ⟨rfl,hb2⟩;have hg2:=hg1.step hb2;have bC:=ak bB hb2;have s02:=(hb2.cell (p:=⟨w1.heap.size,0,none⟩) (by simp)).trans s0;have s12:=(hb2.cell (p:=⟨w1.heap.size,1,none⟩) (by simp)).trans s1;have bx2:=bx1.step hb2;have c0:=bx2.c0;have c1:=bx2.c1)
    | (go_at_call 40;refine (K4 a b _ hg2).mono ?_;rintro e w3 ⟨rfl,hb3⟩;have bD:=ak bC hb3))
   go_ret3
   exact⟨rfl,bD⟩
 ·have hF:Bur.ueF L n (x,l)=(Bur.auP L).2:=if_neg h0
  rw[show Bur.ueS L n (x,l)=0 from if_neg (by rw[hF];exact h0),show Bur.ueA L n (x,l)=0 from if_neg (by rw[hF];exact h0),hF,ay h0]
  rw[ay h0] at K2
  generalize (Bur.auP L).1=i at K2
  generalize (Bur.auP L).2=G at K2 ⊢
  clear hF h0 K3
  go_enter Tryz.func18,Tryz.ntmps18
  go_wp2_with (first
   | (go_at_call 38;refine K1.mono ?_;clear K1;rintro e w1 ⟨a,b,rfl,hg,hb1⟩;have bA:=aj (ah w1) (.cells #[.map (some a),.map (some b)] 91);have hg1:=hg.step bA;have bB:=ak (ak b0 hb1) bA)
   | (go_at_call 39;refine (K2 a b _ bB hg1).mono ?_;rintro e w2 ⟨rfl,hb2⟩;have bC:=ak bB hb2))
  go_ret3
  exact⟨rfl,bC⟩
