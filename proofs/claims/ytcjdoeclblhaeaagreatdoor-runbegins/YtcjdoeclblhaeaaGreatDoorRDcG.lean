/- -/
import Derived.Test.YtcjdoeclblhaeaaGreatDoorRDcA
import Derived.Test.YtcjdoeclblhaeaaGreatDoorRDcShelfB
import Derived.Test.YtcjdoeclblhaeaaGreatDoorRDcIdx
set_option maxHeartbeats 4000000
set_option maxRecDepth 100000
namespace Go.Proofs.YtcjdoeclblhaeaaGreatDoor
open Go.RowKit Go.Maps Go.Shelf Vs
theorem bExtra:Builder.Extra Tryz.prog Tryz.layRepeat_ren where
 sizeBuilder:=by kernel_rfl
 liesBuilder:=by kernel_rfl
 t5:=Tryz.layRepeat.t5
 a5:=Tryz.layRepeat.a5
 z5:=Tryz.layRepeat.z5
 v5:=Tryz.layRepeat.v5
 infoByte:=by kernel_rfl
 cellsByte:=by kernel_rfl
 sizeByte:=by kernel_rfl
 neB5:=by decide
theorem dkRepeat (w:World):Calls Tryz.prog 95 #[.string { data:=#[255] },.int .i64 25] w fun e w'=>e=.returned (.string hiK)/\Below w.heap.size w w':=by
 have h:=Any.strings_Repeat Tryz.layRepeat bExtra { data:=#[255] } 25 w (by decide) (by decide)
 exact h
theorem dkAll {w:World} {F:Nat->Prop} {B:Nat} {d:Dk} (h:DT w F B d) (ok:OkD d) (hl:d.vs.length<=1000):Calls Tryz.prog 69 #[.pointer (some ⟨B,0,none⟩)] w fun e w'=>∃ (q:Option Addr) (cq:Nat),e=.returned (.slice q (allP d).length cq)/\(allP d).length<=cq/\PrIn (fun j=>w.heap.size<=j) w' q (allP d)/\Below w.heap.size w w':=by
 obtain⟨cc,L,Tb,M,D,hx,htl,hF⟩:=h
 have K1:=dkRepeat w
 have hat:atF d.top=0:=by
  have h1:=last_max ok
  have h2:=ok.tb.t0
  exact if_neg (by omega)
 have hrg:rgS d.vs ByteArray.empty hiK d.top=allP d:=by rw[<- all_rng ok,<- htl];exact if_pos hat
 have K3:=fun (W:World) (G:Nat->Prop) (ht:Tab W G Tb d.vs d.top)=>rangeO ByteArray.empty hiK d.top W ht ok.tb hl
 rw[hrg,hat,ev_0] at K3
 replace htl:Hid _:=htl
 generalize allP d=P at K3 ⊢
 generalize hiK=H at K1 K3
 clear hrg hat
 go_enter Tryz.func69,Tryz.ntmps69
 go_wp2_with (go_at_call 95;refine K1.mono ?_;clear K1;rintro e w1 ⟨rfl,hb1⟩)
 have hx1:=hx.step hb1
 have hx2:=hx1.step (below_self w1).drew
 have m1:=hx2.c1
 have K2:=dxTop hx2
 go_region_held3 (fun wy=>wy.cell? ⟨B,1,none⟩=some (.pointer (some ⟨Tb,0,none⟩)))
  (first|exact m1|exact q1)
  (first
   | (go_at_call 92;refine K2.mono ?_;rintro e w3 ⟨rfl,hw⟩;have:=hw.symm;subst this)
   | (go_at_call 96;refine (K3 _ _ hx2.tb).mono ?_;rintro e w4 ⟨q,cq,rfl,hown,hb4⟩;have q1:=(hb4.cell (p:=⟨B,1,none⟩) hx2.ltB).trans m1))
 go_wp2_with fail
 go_ret
 have hb:Below w.heap.size w w4:=below_via (below_via hb1 (below_self w1).drew) hb4
 have s1:=hb1.size
 have hp:PrIn (fun j=>w.heap.size<=j) w4 q P:=fun hp=>by
  obtain⟨b,off,e1,e2,e3⟩:=(prAt_own hown).2 hp
  subst e1
  have:w1.heap.size<=b:=(hown.lt b rfl).1
  exact⟨b,off,rfl,e2,by omega,e3⟩
 obtain⟨p,c,e,hc,_⟩:=lw_form hown
 cases e
 first|exact⟨q,cq,rfl,hc,hp,hb⟩|exact⟨q,⟨cq,rfl,hc⟩,hp,hb⟩
end Go.Proofs.YtcjdoeclblhaeaaGreatDoor
namespace Go.Proofs.YtcjdoeclblhaeaaGreatDoor
open Go.RowKit Go.Maps Vs
theorem size_empty {v:ByteArray} (h:v.size=0):v=ByteArray.empty:=by
 cases v with|mk a=>
 have:a=#[]:=by
  have h:a.size=0:=h
  exact Array.eq_empty_of_size_eq_zero h
 rw[this];rfl
structure Shw (w wr:World) (c c':Nat->Int) (B L Tb M:Nat) (D:DataW Value) (ids s:Int) (g:Lg) (vs:List Ver) (top:Int) (ox:Int->Option Ox):Prop where
 dx:DX wr c' B L Tb M D ids s g vs top ox
 ok:OkT vs top
 old:∀ j,j<w.heap.size->c' j=c j
 bt:But (fun j=>c j = -4) w wr
theorem Shw.step {w wr w':World} {c c':Nat->Int} {B L Tb M:Nat} {D:DataW Value} {ids s:Int} {g:Lg} {vs:List Ver} {top:Int} {ox:Int->Option Ox} (h:Shw w wr c c' B L Tb M D ids s g vs top ox) (hb:Below wr.heap.size wr w'):Shw w w' c c' B L Tb M D ids s g vs top ox:=⟨h.dx.step hb,h.ok,h.old,h.bt.step hb⟩
theorem Shw.put {w wr w':World} {c c':Nat->Int} {B L Tb M:Nat} {D:DataW Value} {ids s:Int} {g:Lg} {vs vs':List Ver} {top top':Int} {ox:Int->Option Ox} (h:Shw w wr c c' B L Tb M D ids s g vs top ox) (ok':OkT vs' top') (hT:Tab w' (Nw (fun j=>c' j = -4) wr w') Tb vs' top') (hb:But (fun j=>c' j = -4) wr w'):Shw w w' c (rc c' (-4) wr w') B L Tb M D ids s g vs' top' ox:=by
 have hs:=h.bt.size
 refine⟨h.dx.tabs hT hb,ok',fun j hj=>?_,h.bt.then hb (fun j hj e=>by rw[h.old j hj] at e;exact e)⟩
 rw[rc_old (by omega)]
 exact h.old j hj
theorem dkShow {w:World} {c:Nat->Int} {B L Tb M:Nat} {D:DataW Value} {ids s:Int} {g:Lg} {vs:List Ver} {top:Int} {ox:Int->Option Ox} (h:DX w c B L Tb M D ids s g vs top ox) (hO:OkT vs top) (l:List Chg) (p:Option Addr) (cap:Nat) (n:Int) (hl:chF l=0) (hn:top<n) (hm:n<=1000000) (hlen:vs.length+l.length<=1000) (hp:ChIn w (fun j=>¬ c j = -4) p l) :
  Calls Tryz.prog 106 #[.pointer (some ⟨B,0,none⟩),.slice p l.length cap,.int .i64 n] w fun e w'=>e=.returned (.tuple #[]) /\ ∃ c',Shw w w' c c' B L Tb M D ids s g (vs++l.map (verC n)) (shT top n l.length) ox:=by
 have hl20:=(chF_ok hl).1
 go_enter Tryz.func106,Tryz.ntmps106
 go_wp2
 go_loopw [10] (fun v wr=>∃ (k:Nat) (c':Nat->Int),v=.int .i64 k/\k<=l.length/\Shw w wr c c' B L Tb M D ids s g (shL vs l n k) (shT top n k) ox)
  (fun v _=>l.length - (intOf v).toNat)
 case atStart=>exact⟨0,c,rfl,Nat.zero_le _,⟨by simpa [shL,shT] using h,by simpa [shL,shT] using hO,fun _ _=>rfl,.refl _ _⟩⟩
 case round=>
  obtain⟨k,c',rfl,hk,hS⟩:=hrel
  by_cases hkl:k<l.length
  ·obtain⟨x,hx⟩:∃ x,l[k]? = some x:=⟨l[k],List.getElem?_eq_getElem hkl⟩
   have hpr:=hp.but hS.bt (fun j _ hj e=>hj e)
   obtain⟨pb,off,rfl,hpl,_,hC⟩:=hpr (by omega)
   obtain⟨a0,a1,a2⟩:=hC k x hx
   obtain⟨st1,st2,st3⟩:=sh_step hO hl hn hm hx
   have hxm:=List.mem_of_getElem? hx
   obtain⟨xk1,xk2,xv,xg⟩:=chW_ok ((chF_ok hl).2 x hxm)
   have hlen1:(shL vs l n k).length<=1000:=Nat.le_trans (shL_len _ _ _ _) hlen
   have hkz:(k:Int)<(l.length:Int):=by omega
   have hb1:=below_al (below_self wr) (.cells #[.string x.k,.string x.v,.bool x.g] 215)
   have hS1:=(hS.step hb1).step (below_self _).drew
   have m1:=hS1.dx.c1
   have hzk:x.k.size<=maxLen:=by unfold maxLen;omega
   have hzv:x.v.size<=maxLen:=by unfold maxLen;omega
   have n0:(wr.alloc (.cells #[.string x.k,.string x.v,.bool x.g] 215)).drew.cell? ⟨wr.heap.size,0,none⟩=some (.string x.k):=by simp
   have n1:(wr.alloc (.cells #[.string x.k,.string x.v,.bool x.g] 215)).drew.cell? ⟨wr.heap.size,1,none⟩=some (.string x.v):=by simp
   have hnew:∀ j,((fun j=>c' j = -4) j)->j<wr.heap.size:=fun j hj=>hS.dx.lt j (by rw[hj];decide)
   have hNl:wr.heap.size<(wr.alloc (.cells #[.string x.k,.string x.v,.bool x.g] 215)).drew.heap.size:=by simp
   cases hg:x.g
   ·have hv:verC n x=⟨x.k,x.v,n,false⟩:=by rw[verC,hg]
    rw[hv] at st1 st2
    have okn:OkT (shL vs l n (k+1)) (shT top n (k+1)):=by
     have:=hS.ok.put st1
     rw[st2] at this;rw[st3];exact this
    have K:=put x.k x.v n _ hS1.dx.tb hS1.ok hlen1 (fun j hj=>hS1.dx.lt j (by rw[hj];decide)) hzk
    rw[show ptL (shL vs l n k) (shT top n k) ⟨x.k,x.v,n,false⟩=shL vs l n (k+1) from by rw[ptL,if_pos st1,st2],show ptT (shT top n k) ⟨x.k,x.v,n,false⟩=shT top n (k+1) from by rw[ptT,if_pos st1,st3],st1,ev_0] at K
    rw[hg] at a2 hb1 hS1 m1 n0 n1 hNl K
    clear st1 st2 st3 hv hx hC hpr hpl
    go_wp2
    go_region_held3 (fun wy=>wy.cell? ⟨B,1,none⟩=some (.pointer (some ⟨Tb,0,none⟩))/\wy.cell? ⟨wr.heap.size,0,none⟩=some (.string x.k)/\wy.cell? ⟨wr.heap.size,1,none⟩=some (.string x.v))
     (first|exact⟨m1,n0,n1⟩|exact⟨q1,q2,q3⟩)
     (first|(go_at_call 149;refine K.mono ?_;rintro e w5 ⟨rfl,hT5,b5⟩;have hS5:=hS1.put okn hT5 b5;have q1:=hS5.dx.c1;have q2:=(b5.cell (p:=⟨wr.heap.size,0,none⟩) hNl (fun e=>Nat.lt_irrefl _ (hnew _ e))).trans n0;have q3:=(b5.cell (p:=⟨wr.heap.size,1,none⟩) hNl (fun e=>Nat.lt_irrefl _ (hnew _ e))).trans n1))
    clear q1 q2 q3 m1 n0 n1
    go_wp2_with fail
    exact⟨⟨k+1,_,by go_num,by omega,hS5⟩,by simp[intOf];omega⟩
   ·have hve:x.v=ByteArray.empty:=size_empty (xg hg)
    have hv:verC n x=⟨x.k,ByteArray.empty,n,true⟩:=by rw[verC,hg,hve]
    rw[hv] at st1 st2
    have okn:OkT (shL vs l n (k+1)) (shT top n (k+1)):=by
     have:=hS.ok.put st1
     rw[st2] at this;rw[st3];exact this
    have K:=drop x.k n _ hS1.dx.tb hS1.ok hlen1 (fun j hj=>hS1.dx.lt j (by rw[hj];decide)) hzk
    rw[show ptL (shL vs l n k) (shT top n k) ⟨x.k,ByteArray.empty,n,true⟩=shL vs l n (k+1) from by rw[ptL,if_pos st1,st2],show ptT (shT top n k) ⟨x.k,ByteArray.empty,n,true⟩=shT top n (k+1) from by rw[ptT,if_pos st1,st3],st1,ev_0] at K
    rw[hg] at a2 hb1 hS1 m1 n0 n1 hNl K
    clear st1 st2 st3 hv hx hC hpr hpl hve
    go_wp2
    go_region_held3 (fun wy=>wy.cell? ⟨B,1,none⟩=some (.pointer (some ⟨Tb,0,none⟩))/\wy.cell? ⟨wr.heap.size,0,none⟩=some (.string x.k))
     (first|exact⟨m1,n0⟩|exact⟨q1,q2⟩)
     (first|(go_at_call 148;refine K.mono ?_;rintro e w5 ⟨rfl,hT5,b5⟩;have hS5:=hS1.put okn hT5 b5;have q1:=hS5.dx.c1;have q2:=(b5.cell (p:=⟨wr.heap.size,0,none⟩) hNl (fun e=>Nat.lt_irrefl _ (hnew _ e))).trans n0))
    clear q1 q2 m1 n0 n1
    go_wp2_with fail
    exact⟨⟨k+1,_,by go_num,by omega,hS5⟩,by simp[intOf];omega⟩
  ·have e:k=l.length:=by omega
   subst e
   rw[shL_all] at hS
   go_wp2
   go_end0
   exact⟨rfl,c',hS⟩
end Go.Proofs.YtcjdoeclblhaeaaGreatDoor
namespace Go.Proofs.YtcjdoeclblhaeaaGreatDoor
open Go.RowKit Go.Maps Vs
theorem Shw.trans {w wr w':World} {c c' c'':Nat->Int} {B L Tb M:Nat} {D:DataW Value} {ids s:Int} {g:Lg} {vs vs':List Ver} {top top':Int} {ox:Int->Option Ox} (h:Shw w wr c c' B L Tb M D ids s g vs top ox) (k:Shw wr w' c' c'' B L Tb M D ids s g vs' top' ox):Shw w w' c c'' B L Tb M D ids s g vs' top' ox:=by
 have hs:=h.bt.size
 exact⟨k.dx,k.ok,fun j hj=>by rw[k.old j (by omega)];exact h.old j hj,h.bt.then k.bt (fun j hj e=>by rw[h.old j hj] at e;exact e)⟩
theorem Shw.two {w wr w':World} {c c' c'':Nat->Int} {B L Tb M:Nat} {D:DataW Value} {ids s:Int} {g:Lg} {vs vs':List Ver} {top top':Int} {ox:Int->Option Ox} (h:Shw w wr c c' B L Tb M D ids s g vs top ox) (k:Shw wr w' c' c'' B L Tb M D ids s g vs' top' ox) {vs2:List Ver} {top2:Int} (e1:vs'=vs2) (e2:top'=top2):Shw w w' c c'' B L Tb M D ids s g vs2 top2 ox:=by
 subst e1 e2;exact h.trans k
theorem dkCrash {w:World} {F:Nat->Prop} {B:Nat} {d:Dk} (n:Int) (n0 : -9223372036854775808<=n) (n1:n<=9223372036854775807) (h:DT w F B d) (ok:OkD d) (hwt:wtL d.lg.ls<=1000) :
  Calls Tryz.prog 76 #[.pointer (some ⟨B,0,none⟩),.int .i64 n] w fun e w'=>e=.returned (.tuple #[])/\DT w' (Nw F w w') B (cdD d n)/\But F w w':=by
 obtain⟨cc,L,Tb,M,D,hx,htl,hF⟩:=h
 have okc:=ok.cd n
 have K1:=lgCrash n n0 n1 hx.lg ok.lg
 have c0:=hx.c0
 have hB:F B:=hF B (by rw[hx.cB];decide)
 have hM:F M:=hF M (by rw[hx.cM];decide)
 have hsf:=sf_cd d n
 have htk:∃ k,(crG d.lg n).ls=d.lg.ls.take k:=by
  obtain⟨k,_,h2,_⟩:=fitL_take (crN d.lg n) d.lg.ls
  exact⟨k,h2⟩
 have hwl:wtL (crG d.lg n).ls<=1000:=by
  obtain⟨k,hk⟩:=htk
  rw[hk]
  exact Nat.le_trans (wtL_take _ _) hwt
 have okg:OkL (crG d.lg n):=okc.lg
 have heach:∀ l∈(crG d.lg n).ls,0<l.length:=okc.each
 have hfew:=okg.few.1
 have hcd:Hid ((cdD d n).lg=crG d.lg n/\(cdD d n).vs=tab (crG d.lg n).ls/\(cdD d n).top=(crG d.lg n).ls.length/\(cdD d n).last=(crG d.lg n).ls.length/\(cdD d n).ids=d.ids/\opI (cdD d n)=fun _=>none):=⟨rfl,rfl,rfl,rfl,rfl,rfl⟩
 replace hsf:Hid ((sfN (cdD d n):Int)=(crG d.lg n).ls.length):=hsf
 generalize cdD d n=d' at hsf hcd ⊢
 generalize crG d.lg n=g at *
 clear okc htk hwt
 go_enter Tryz.func76,Tryz.ntmps76
 go_wp2_with (first
  | (go_at_call 107;refine K1.mono ?_;clear K1;rintro e w1 ⟨rfl,hT1,b1⟩;have hx1:=hx.logs hT1 b1;have m2:=hx1.c2;obtain⟨nm,ho1⟩:=hx1.own;obtain⟨w2,hcl,ho2,hg2,hs2⟩:=run_clearI 61 167 Tryz.underlying61 ho1;have b2:=grown_butM hg2;have hx2:=hx1.maps (ox':=fun _=>none) b2 ho2 (fun i _=>look_empty _) (fun i o hi=>by cases hi))
  | (go_at_call 20;refine (new w2).mono ?_;rintro e w3 ⟨T3,rfl,hT3,b3⟩;have hx3:=hx2.tabs ((hx2.tb.step b3).mono (fun j _ e=>.inl e)) (.below b3);have hT3':Tab w3 (fun j=>rc (rc cc (-3) w w1) (-4) w2 w3 j = -4) T3 [] 0:=hT3.mono (fun j _ hj=>rc_new hj);have m1:=hx3.c1;have f1:=hx3.fz 1 (by decide);have m3:=hx3.c0))
 obtain⟨w4,hw4⟩:∃ w4,w4=w3.setCell ⟨B,1,none⟩ (.pointer (some ⟨T3,0,none⟩)):=⟨_,rfl⟩
 have hx4:DX w4 (rc (rc cc (-3) w w1) (-4) w2 w3) B L T3 M (.map []) d.ids (sfN d) g [] 0 (fun _=>none):=by
  have k0:=hx3.c0;have k1:=hx3.c1;have k2:=hx3.c2;have k3:=hx3.c3;have k4:=hx3.c4
  have f0:=hx3.fz 0 (by decide);have f2:=hx3.fz 2 (by decide);have f3:=hx3.fz 3 (by decide);have f4:=hx3.fz 4 (by decide)
  rw[hw4]
  refine hx3.at lw_set (by go_simp) (by go_simp) (by go_simp) (by go_simp) (by go_simp) (fun i hi=>?_) hx3.lg hT3'
  match i,hi with
  | 0,_=>go_simp
  | 1,_=>go_simp
  | 2,_=>go_simp
  | 3,_=>go_simp
  | 4,_=>go_simp
 have b4:But F w w4:=by
  have q1:But F w w2:=(rc_but hF (by decide) b1).then b2 (fun j _ e=>by rw[e];exact hM)
  rw[hw4]
  exact (q1.step b3).setCell (p:=⟨B,1,none⟩) (.inl hB) _
 have hold4:∀ j,j<w.heap.size->rc (rc cc (-3) w w1) (-4) w2 w3 j=cc j:=fun j hj=>by
  have s1:=b1.size
  rw[rc_old (by omega),rc_old hj]
 have s14:w.heap.size<=w4.heap.size:=b4.size
 generalize rc (rc cc (-3) w w1) (-4) w2 w3=c4 at hx4 hold4
 have m0:=hx4.c0
 have K5:=lgRead hx4.lg okg
 rw[<- hw4]
 refine K5.mono ?_
 rintro e w5 ⟨q,cq,rfl,hls,hb5⟩
 clear hx3 hx2 hx1 hT3 hT3' hw4 b3 b2 b1 hcl ho2 ho1 hg2 hs2 m1 m2 m3 f1 hx c0 K5 m0
 have hx5:=hx4.step hb5
 have hs5:=hb5.size
 have hc5:∀ j,w4.heap.size<=j->c4 j=0:=fun j hj=>by
  by_cases e:c4 j=0
  ·exact e
  ·have:=hx4.lt j e;omega
 have hls2:LsAt w5 (fun j=>w4.heap.size<=j/\j<w5.heap.size) q g.ls:=hls.mono (fun j hj e=>⟨e,hj⟩)
 clear hls
 go_wp2
 go_loopw [26] (fun v wr=>∃ (k:Nat) (c':Nat->Int),v=.int .i64 k/\k<=g.ls.length/\Shw w5 wr c4 c' B L T3 M (.map []) d.ids (sfN d) g (tab (g.ls.take k)) k (fun _=>none))
  (fun v _=>g.ls.length - (intOf v).toNat)
 case atStart=>exact⟨0,c4,rfl,Nat.zero_le _,⟨by simpa [tab,tabF] using hx5,by simpa [tab,tabF] using OkT.nil,fun _ _=>rfl,.refl _ _⟩⟩
 case round=>
  obtain⟨k,c',rfl,hk,hS⟩:=hrel
  by_cases hkl:k<g.ls.length
  ·obtain⟨l,hl⟩:∃ l,g.ls[k]? = some l:=⟨g.ls[k],List.getElem?_eq_getElem hkl⟩
   have hlsr:=hls2.but hS.bt (fun j _ hj e=>by have:=hc5 j hj.1;omega)
   obtain⟨pb,off,rfl,hpl,_,hC⟩:=hlsr (by omega)
   obtain⟨v0,hv0,q0,cq0,rfl,_,_,hch⟩:=hC k l hl
   have hlm:=List.mem_of_getElem? hl
   have hl0:=heach l hlm
   have hw1:wtL (g.ls.take k)+l.length<=1000:=by
    have h1:wtL (g.ls.take (k+1))=wtL (g.ls.take k)+l.length:=by rw[List.take_add_one,hl,Option.toList_some,wtL_app]
    have h2:=wtL_take g.ls (k+1)
    omega
   have K6:=dkShow hS.dx hS.ok l q0 cq0 ((k:Int)+1) (okg.each l hlm) (by omega) (by omega) (by rw[tab_len];exact hw1) (hch.mono (fun j _ hj e=>by rw[hS.old j hj.2,hc5 j hj.1] at e;cases e))
   have e1:tab (g.ls.take k)++l.map (verC ((k:Int)+1))=tab (g.ls.take (k+1)):=(tab_succ hl).symm
   have e2:shT (k:Int) ((k:Int)+1) l.length=((k+1:Nat):Int):=by rw[shT,if_neg (by omega)];rfl
   have hkz:(k:Int)<(g.ls.length:Int):=by omega
   have hE:Hid (_/\_):=⟨e1,e2⟩
   clear e1 e2 hl hC hlsr hch hw1 hl0 hlm
   go_wp2_with (go_at_call 106;refine K6.mono ?_;clear K6;rintro e w7 ⟨rfl,c7,hS7⟩)
   exact⟨⟨k+1,c7,by go_num,by omega,hS.two hS7 hE.out.1 hE.out.2⟩,by simp[intOf];omega⟩
  ·have e:k=g.ls.length:=by omega
   subst e
   rw[List.take_length] at hS
   have hxr:=hS.dx
   have m4:=hxr.c4
   have f4:=hxr.fz 4 (by decide)
   have K7:=dxTop hxr
   go_wp2_with (go_at_call 92;refine K7.mono ?_;clear K7;rintro e w8 ⟨rfl,hw⟩;have:=hw.symm;subst this)
   go_end0
   have hx9:=hxr.set4 (g.ls.length:Nat)
   obtain⟨g1,g2,g3,g4,g5,g6⟩:=hcd.out
   have sr:=hS.bt.size
   refine⟨rfl,⟨c',L,T3,M,.map [],?_,by rw[g3,g4],fun j hj=>?_⟩,?_⟩
   ·rw[g1,g2,g3,g5,g6,hsf.out];exact hx9
   ·by_cases hjw:j<w.heap.size
    ·rw[hS.old j (by omega),hold4 j hjw] at hj
     exact .inl (hF j hj)
    ·have:=hx9.lt j hj
     exact .inr ⟨by omega,this⟩
   ·exact ((b4.step hb5).then hS.bt (fun j hj e=>hF j (by rw[<- hold4 j hj,e];decide))).setCell (p:=⟨B,4,none⟩) (.inl hB) _
end Go.Proofs.YtcjdoeclblhaeaaGreatDoor
namespace Go.Proofs.YtcjdoeclblhaeaaGreatDoor
open Go.RowKit Go.Maps Go.Shelf Vs
theorem dkTouch (lo hi:ByteArray) (W:World) {b2 b3 B b Tb:Nat} {sees:Int} {G:Nat->Prop} {vs:List Ver} {top:Int} (k2:W.cell? ⟨b2,0,none⟩=some (.pointer (some ⟨B,0,none⟩))) (k3:W.cell? ⟨b3,0,none⟩=some (.pointer (some ⟨b,0,none⟩))) (kB:W.cell? ⟨B,1,none⟩=some (.pointer (some ⟨Tb,0,none⟩))) (kb:W.cell? ⟨b,0,none⟩=some (.int .i64 sees))
  (hT:Tab W G Tb vs top) (hO:OkT vs top) (hl:vs.length<=1000) (hat:atF sees=0) (hz:lo.size<9223372036854775807) :
  Calls Tryz.prog 139 #[.agg #[.string lo,.string hi],.pointer (some ⟨b2,0,none⟩),.pointer (some ⟨b3,0,none⟩)] W fun e w'=>e=.returned (.bool (vtch vs lo hi sees))/\Below W.heap.size W w':=by
 have hb1:=(below_al (below_self W) (.cells #[.string lo,.string hi] 207)).drew
 have K:=touched lo hi sees _ (hT.step hb1) hO hl hz
 rw[show tcS vs lo hi sees=vtch vs lo hi sees from if_pos hat,hat,ev_0] at K
 generalize vtch vs lo hi sees=R at K ⊢
 have l2:=World.block_lt_of_cell? _ _ k2
 have l3:=World.block_lt_of_cell? _ _ k3
 have lB:=World.block_lt_of_cell? _ _ kB
 have lb:=World.block_lt_of_cell? _ _ kb
 have m2:=(hb1.cell (p:=⟨b2,0,none⟩) l2).trans k2
 have m3:=(hb1.cell (p:=⟨b3,0,none⟩) l3).trans k3
 have mB:=(hb1.cell (p:=⟨B,1,none⟩) lB).trans kB
 have mb:=(hb1.cell (p:=⟨b,0,none⟩) lb).trans kb
 have n0:(W.alloc (.cells #[.string lo,.string hi] 207)).drew.cell? ⟨W.heap.size,0,none⟩=some (.string lo):=by simp
 have n1:(W.alloc (.cells #[.string lo,.string hi] 207)).drew.cell? ⟨W.heap.size,1,none⟩=some (.string hi):=by simp
 have hs1:(W.alloc (.cells #[.string lo,.string hi] 207)).drew.heap.size=W.heap.size+1:=by simp
 replace hs1:Hid _:=hs1
 clear k2 k3 kB kb hT
 go_enter Tryz.func139,Tryz.ntmps139
 go_wp2
 go_region_held3 (fun wy=>wy.cell? ⟨b2,0,none⟩=some (.pointer (some ⟨B,0,none⟩))/\wy.cell? ⟨b3,0,none⟩=some (.pointer (some ⟨b,0,none⟩))/\wy.cell? ⟨B,1,none⟩=some (.pointer (some ⟨Tb,0,none⟩))/\wy.cell? ⟨b,0,none⟩=some (.int .i64 sees)/\wy.cell? ⟨W.heap.size,0,none⟩=some (.string lo)/\wy.cell? ⟨W.heap.size,1,none⟩=some (.string hi))
  (first|exact⟨m2,m3,mB,mb,n0,n1⟩|exact⟨q2,q3,qB,qb,r0,r1⟩)
  (first|(go_at_call 140;refine K.mono ?_;rintro e w5 ⟨rfl,hb5⟩;have q2:=(hb5.cell (p:=⟨b2,0,none⟩) (by rw[hs1.out];show b2<_;omega)).trans m2;have q3:=(hb5.cell (p:=⟨b3,0,none⟩) (by rw[hs1.out];show b3<_;omega)).trans m3;have qB:=(hb5.cell (p:=⟨B,1,none⟩) (by rw[hs1.out];show B<_;omega)).trans mB;have qb:=(hb5.cell (p:=⟨b,0,none⟩) (by rw[hs1.out];show b<_;omega)).trans mb;have r0:=(hb5.cell (p:=⟨W.heap.size,0,none⟩) (by rw[hs1.out];show W.heap.size<_;omega)).trans n0;have r1:=(hb5.cell (p:=⟨W.heap.size,1,none⟩) (by rw[hs1.out];show W.heap.size<_;omega)).trans n1))
 go_wp2_with fail
 go_ret
 exact⟨rfl,below_via hb1 hb5⟩
theorem OwnR.found {D:DataW Value} {own:List Chg} (h:OwnR D own) {k:ByteArray} {v:Value} (hv:look D (kS k)=some v):∃ c,ownC own k=some c/\v=chM c:=by
 rw[h k] at hv
 cases e:ownC own k with
 | none=>rw[e] at hv;cases hv
 | some c=>rw[e] at hv;exact⟨c,rfl,(Option.some.inj hv).symm⟩
theorem dkClash {w:World} {c:Nat->Int} {B L Tb M:Nat} {D:DataW Value} {ids s:Int} {g:Lg} {vs:List Ver} {top:Int} {ox:Int->Option Ox} (h:DX w c B L Tb M D ids s g vs top ox) {G:Nat->Prop} {b:Nat} {o:Ox} {v:Value} {qs:List Pr} {Mo:Nat} {Do:DataW Value} (tx:TX w G b o.sees v qs Mo Do) (hq:AskR qs o) (hO:OwnR Do o.own) (hc:chF o.own=0) (hT:OkT vs top) (hl:vs.length<=1000) (hat:atF o.sees=0) (hz:∀ x∈qs,x.1.size<9223372036854775807) (hql:qs.length<=1000) :
  Calls Tryz.prog 103 #[.pointer (some ⟨B,0,none⟩),.pointer (some ⟨b,0,none⟩)] w fun e w'=>e=.returned (.bool (clash vs o))/\Below w.heap.size w w':=by
 obtain⟨p,cp,rfl,-⟩:=lw_form tx.row
 obtain⟨n,ho⟩:=tx.own
 have hr:=chF_ris hc
 have hot:=own_tight ho
 rw[hO.size ho hr] at hot
 obtain⟨W,hW⟩:∃ W,W=(w.alloc (.cells #[.pointer (some ⟨B,0,none⟩)] 40)).alloc (.cells #[.pointer (some ⟨b,0,none⟩)] 167):=⟨_,rfl⟩
 have hbW:Below w.heap.size w W:=by rw[hW];exact below_al (below_al (below_self w) _) _
 have hWs:W.heap.size=w.heap.size+2:=by rw[hW];simp
 have k2:W.cell? ⟨w.heap.size,0,none⟩=some (.pointer (some ⟨B,0,none⟩)):=by rw[hW];simp
 have k3:W.cell? ⟨w.heap.size+1,0,none⟩=some (.pointer (some ⟨b,0,none⟩)):=by rw[hW];simp
 have hxW:=h.step hbW
 have txW:=tx.step hbW
 have c1:=txW.c1
 have c2:=txW.c2
 have hoW:W.ownsMap Tryz.prog 9 anyE Mo o.own.length Do:=map_but (F:=fun _=>False) hot (.below hbW) id
 have hMoW:=txW.ltM
 have KT:∀ (lo hi:ByteArray) (W1:World),Below W.heap.size W W1->lo.size<9223372036854775807->Calls Tryz.prog 139 #[.agg #[.string lo,.string hi],.pointer (some ⟨w.heap.size,0,none⟩),.pointer (some ⟨w.heap.size+1,0,none⟩)] W1 fun e w'=>e=.returned (.bool (vtch vs lo hi o.sees))/\Below W1.heap.size W1 w':=fun lo hi W1 hb1 hlo=>
  dkTouch lo hi W1 ((hb1.cell (p:=⟨w.heap.size,0,none⟩) (by show w.heap.size<_;omega)).trans k2) ((hb1.cell (p:=⟨w.heap.size+1,0,none⟩) (by show w.heap.size+1<_;omega)).trans k3) ((hb1.cell (p:=⟨B,1,none⟩) hxW.ltB).trans hxW.c1) ((hb1.cell (p:=⟨b,0,none⟩) txW.lt).trans txW.c0) (hxW.tb.step hb1) hT hl hat hlo
 have eg:∀ args w,(callFunc 139 args).run Tryz.prog w=.ok (.enter 139 args) w:=enters_of Tryz.func139 (by kernel_rfl) rfl
 have KC:=containsSt 139 #[.pointer (some ⟨w.heap.size,0,none⟩),.pointer (some ⟨w.heap.size+1,0,none⟩)] eg (fun x=>vtch vs x.1 x.2 o.sees) p cp qs W (by omega) (prAt_own txW.row).2 (fun x w1 hx hb1=>KT x.1 x.2 w1 hb1 (hz x hx))
 have hcl:Hid _:=clash_as hq vs
 have hk24:∀ k c,ownC o.own k=some c->k.size<=24:=fun k c e=>by
  obtain⟨e1,e2⟩:=ownC_some e
  obtain⟨_,a2,_⟩:=chW_ok ((chF_ok hc).2 c e1)
  rw[<- e2];exact a2
 cases hA:qs.any (fun x=>vtch vs x.1 x.2 o.sees) with
 | true=>
  have hR:Hid (clash vs o=true):=by show _=_;rw[hcl.out,hA];rfl
  rw[hA] at KC
  generalize clash vs o=R at hR ⊢
  clear hcl hA KT
  rw[hW] at KC c1
  go_enter Tryz.func103,Tryz.ntmps103
  go_wp2_with (go_at_call 141;refine KC.mono ?_;clear KC;rintro e w3 ⟨rfl,hb3⟩)
  go_ret
  rw[<- hW] at hb3
  exact⟨by rw[hR.out];rfl,below_via hbW hb3⟩
 | false=>
  have hR:Hid (clash vs o=o.own.any (fun c=>vtch vs c.k (kz c.k) o.sees)):=by show _=_;rw[hcl.out,hA];rfl
  rw[hA] at KC
  generalize clash vs o=R at hR ⊢
  clear hcl hA
  rw[hW] at KC c1
  go_enter Tryz.func103,Tryz.ntmps103
  go_wp2_with (first
   | (go_at_call 141;refine KC.mono ?_;clear KC;rintro e w3 ⟨rfl,hb3⟩;rw[<- hW] at hb3;have q3:=(hb3.cell (p:=⟨w.heap.size+1,0,none⟩) (by show w.heap.size+1<_;omega)).trans k3;have r2:=(hb3.cell (p:=⟨b,2,none⟩) txW.lt).trans c2;have ho3:w3.ownsMap Tryz.prog 9 anyE Mo o.own.length Do:=map_but (F:=fun _=>False) hoW (.below hb3) id)
   | (at_range;refine wpList_range_own _ rfl _ 173 rfl 9 215 keyed Tryz.underlying173 _ Mo o.own.length Do rfl ho3 ?_;intro w0 hrg0 hg0 hs0)
   | go_in)
  go_frame
  have hb0':Below w3.heap.size w3 w0:=⟨hg0.os,hg0.tape,hg0.output,hg0.size,fun k hk=>hg0.block k hk (by simp)⟩
  have hb0:Below W.heap.size W w0:=below_via hb3 hb0'
  have hs3:=hb3.size
  have hlk3:=fun k=>(look_at ho3 (kS k) undef).2
  have hstart:Hid (∀ k c,ownC o.own k=some c->Maps.has Do (kS k)=false->vtch vs k (kz k) o.sees=false):=fun k c e e2=>by
   rw[hlk3,hO k,e] at e2;cases e2
  replace hW:Hid _:=hW
  replace hWs:Hid _:=hWs
  clear q3 r2 k2 k3 c1 c2
  go_loopw [4] (fun _ wr=>∃ (left:Lit->Bool) (cnt:Nat),wr.ranges Tryz.prog 9 anyE Mo w3.heap.size o.own.length Do left cnt/\Hid (∀ k c,ownC o.own k=some c->left (kS k)=false->vtch vs k (kz k) o.sees=false)/\Below W.heap.size W wr/\Below w3.heap.size w3 wr)
   (fun _ wr=>wr.rangeLeft Mo w3.heap.size)
  case atStart=>exact⟨_,_,hrg0,hstart,hb0,hb0'⟩
  case round=>
   obtain⟨left,cnt,hrg,hN,hb,hb'⟩:=hrel
   go_wp2_with (first
    | (at_next;refine wpList_next_str rfl _ rfl 9 Tryz.underlying9 Mo w3.heap.size o.own.length Do left cnt rfl hrg ?_ ?_)
    | go_in)
   ·intro hc0 hl0
    have hE:Hid (R=false):=by
     show _=_
     rw[hR.out,List.any_eq_false]
     intro x hx
     rw[hN.out x.k x (ownC_is hr hx) (hl0 _)];simp
    clear hN hstart hrg hrg0 hR
    go_wp2
    go_ret
    exact⟨by rw[hE.out];rfl,below_via hbW hb⟩
   ·intro k v0 w1 cnt1 hsz hlk hlook hrg1 hlt hg1 hs1 hen
    have hb1:Below W.heap.size W w1:=hb.grown hg1 hb.size (fun j hj=>by cases hj;exact hs3)
    have hb1':Below w3.heap.size w3 w1:=hb'.grown hg1 hb'.size (fun j hj=>by cases hj;exact Nat.le_refl _)
    obtain⟨x,hx,rfl⟩:=hO.found hlook
    have hk:=hk24 k x hx
    have KO:=dkOnly k w1 (by omega)
    have hxk:=(ownC_some hx)
    cases hV:vtch vs k (kz k) o.sees with
    | true=>
     have hE:Hid (R=true):=by
      show _=_
      rw[hR.out,List.any_eq_true]
      exact⟨x,hxk.1,by rw[hxk.2];exact hV⟩
     have KV:=fun (w4:World) (hb4:Below w1.heap.size w1 w4)=>KT k (kz k) w4 (hb1.trans (hb4.mono hb1.size)) (by omega)
     rw[hV] at KV
     clear hN hstart hR hlook hV hx hxk
     generalize kz k=kk at KO KV
     go_wp2_with (first
      | (go_at_call 142;refine KO.mono ?_;clear KO;rintro e w4 ⟨rfl,hb4⟩)
      | (go_at_call 139;refine (KV _ hb4).mono ?_;rintro e w5 ⟨rfl,hb5⟩))
     go_ret
     exact⟨by rw[hE.out];rfl,below_via hbW (hb1.trans ((below_via hb4 hb5).mono hb1.size))⟩
    | false=>
     have hN2:Hid (∀ k' c,ownC o.own k'=some c->(fun z=>left z && !z.sameKey (kS k)) (kS k')=false->vtch vs k' (kz k') o.sees=false):=fun k' c e e2=>by
      have e2:(left (kS k') && !(kS k').sameKey (kS k))=false:=e2
      rw[sameS] at e2
      by_cases ek:k'=k
      ·rw[ek];exact hV
      ·exact hN.out k' c e (by simpa [ek] using e2)
     have KV:=fun (w4:World) (hb4:Below w1.heap.size w1 w4)=>KT k (kz k) w4 (hb1.trans (hb4.mono hb1.size)) (by omega)
     rw[hV] at KV
     clear hN hstart hlook hV hx hxk
     generalize kz k=kk at KO KV
     go_wp2_with (first
      | (go_at_call 142;refine KO.mono ?_;clear KO;rintro e w4 ⟨rfl,hb4⟩)
      | (go_at_call 139;refine (KV _ hb4).mono ?_;rintro e w5 ⟨rfl,hb5⟩))
     have hb6:=below_via hb4 hb5
     have hrg3:=hrg1.kept (below_grownBy hb6) (by simp) (by simp)
     exact⟨⟨_,cnt1,hrg3,hN2,hb1.trans (hb6.mono hb1.size),hb1'.trans (hb6.mono hb1'.size)⟩,by rw[hrg3.left_eq,hrg.left_eq];exact hlt⟩
end Go.Proofs.YtcjdoeclblhaeaaGreatDoor
