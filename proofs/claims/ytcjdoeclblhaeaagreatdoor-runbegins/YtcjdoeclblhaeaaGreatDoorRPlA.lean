/- -/
import Derived.Test.YtcjdoeclblhaeaaGreatDoorRPkA
import Derived.Test.YtcjdoeclblhaeaaGreatDoorRAdCutMath
import Derived.Test.YtcjdoeclblhaeaaGreatDoorRAppOne
import Derived.Test.YtcjdoeclblhaeaaGreatDoorRAdBase
import Derived.Test.YtcjdoeclblhaeaaGreatDoorRAdErr
import Derived.Test.YtcjdoeclblhaeaaGreatDoorRVsBase
import Derived.Test.YtcjdoeclblhaeaaGreatDoorRLgOwn
import Derived.Deep.RegionHeld3
set_option maxHeartbeats 4000000
set_option maxRecDepth 100000
namespace Go.Proofs.YtcjdoeclblhaeaaGreatDoor.Pa
open Go.RowKit Vs
theorem plSingle (a:Int) (w:World):Calls Tryz.prog 162 #[.int .i64 a] w fun e w'=>e=.returned (pfx a 32)/\Below w.heap.size w w':=by
 go_enter Tryz.func162,Tryz.ntmps162
 go_wp2
 exact bodyPost_ret (v:=pfx a 32) (by simp[results,Tryz.results162,go_sem]) rfl ⟨rfl,below_al (below_self _) _⟩
theorem plWithin (a l b m:Int) (w:World):Calls Tryz.prog 256 #[pfx a l,pfx b m] w fun e w'=>e=.returned (.bool (Bur.witB a l b m))/\Below w.heap.size w w':=by
 have K:=fun w'=>within_any a l b m w'
 have b0:=below_al (below_al (below_self w) (.cells #[.int .i64 a,.int .i64 l] 105)) (.cells #[.int .i64 b,.int .i64 m] 105)
 generalize Bur.witB a l b m=R at K ⊢
 generalize Bur.witF a l b m=G at K
 go_enter Tryz.func256,Tryz.ntmps256
 go_wp2_with (go_at_call 285;refine (K _).mono ?_;rintro e w' ⟨rfl,hb⟩)
 go_ret
 exact⟨rfl,below_via b0 hb⟩
theorem plStretch (c:UInt8) (n:ByteArray) (w:World) (hs:n.size<=1000):Calls Tryz.prog 252 #[.string ⟨#[c,47]⟩,.string n] w fun e w'=>e=.returned (.tuple #[.string (loK c n),.string (heK c n)])/\w'=w:=by
 have K:=plHead [c,47] n w (Nat.le_refl 2) hs
 change Calls Tryz.prog _ #[.string ⟨#[c,47]⟩,_] _ _ at K
 have e1:(⟨([c,47]++n.data.toList ++ [47]).toArray⟩:ByteArray)=loK c n:=rfl
 rw[e1] at K
 have h1:(⟨#[c,47]⟩:ByteArray).size+n.size<=9223372036854775807:=by show 2+n.size<=_;omega
 have e2:((⟨#[c,47]⟩:ByteArray)++n)++(⟨#[48]⟩:ByteArray)=heK c n:=by
  apply ByteArray.ext
  simp[heK,txt,ByteArray.data_append]
 have h2:((⟨#[c,47]⟩:ByteArray)++n).size+(⟨#[48]⟩:ByteArray).size<=9223372036854775807:=by
  simp only [ByteArray.size_append]
  show 2+n.size+1<=_
  omega
 have E2:Hid _:=e2
 clear e1 e2
 generalize loK c n=X at K ⊢
 go_enter Tryz.func252,Tryz.ntmps252
 go_wp2_with (go_at_call 250;refine K.mono ?_;rintro e w' ⟨rfl,hw⟩;have:=hw.symm;subst this)
 go_ret2
 exact⟨by rw[<- E2.out];rfl,rfl⟩
end Go.Proofs.YtcjdoeclblhaeaaGreatDoor.Pa
namespace Go.Proofs.YtcjdoeclblhaeaaGreatDoor.Pa
open Go.RowKit Vs
theorem rowStep {w w':World} {B e size n:Nat} {v:Value} {xs:List Value} (h:w.ownsRow B e size v n xs) (hb:Below w.heap.size w w'):w'.ownsRow B e size v n xs:=by
 refine⟨h.1,?_⟩
 rcases h.2 with hn|⟨g,cap,cur,rfl,h1,hg,rest⟩
 ·exact .inl hn
 ·exact .inr ⟨g,cap,cur,rfl,h1,(hb.block g (Array.getElem?_eq_some_iff.1 hg).1).trans hg,rest⟩
def encL (o:Lot):List Value:=[.int .i64 o.1.1,.int .i64 o.1.2,.string o.2]
def lotV (l:List Lot):List Value:=l.flatMap encL
theorem lotV_at:∀ (l:List Lot) (i:Nat) (o:Lot),l[i]? = some o->(lotV l)[i*3]? = some (.int .i64 o.1.1)/\(lotV l)[i*3+1]? = some (.int .i64 o.1.2)/\(lotV l)[i*3+2]? = some (.string o.2)
 | y :: r,0,x,h=>by cases (Option.some.inj h);exact⟨rfl,rfl,rfl⟩
 | y :: r,i+1,x,h=>by
  have:=lotV_at r i x (by simpa using h)
  unfold lotV
  rw[List.flatMap_cons]
  have f:∀ j,(encL y++r.flatMap encL)[(i+1)*3+j]? = (r.flatMap encL)[i*3+j]? := fun j=>by
   rw[List.getElem?_append_right (by show 3<=_;omega),show (i+1)*3+j - (encL y).length=i*3+j from by show (i+1)*3+j - 3=_;omega]
  exact⟨(f 0).trans this.1,(f 1).trans this.2.1,(f 2).trans this.2.2⟩
theorem lot_one (o:Lot):∀ u∈encL o,u.oneCell'=true:=by
 intro u hu
 simp[encL] at hu
 rcases hu with rfl|rfl|rfl <;> rfl
def LotAt (w:World) (p:Option Addr) (l:List Lot):Prop:=0<l.length -> ∃ b off,p=some ⟨b,off,none⟩/\b<w.heap.size /\ ∀ i o,l[i]? = some o->w.cell? ⟨b,off+i*3,none⟩=some (.int .i64 o.1.1)/\w.cell? ⟨b,off+i*3+1,none⟩=some (.int .i64 o.1.2)/\w.cell? ⟨b,off+i*3+2,none⟩=some (.string o.2)
theorem LotAt.step {w w':World} {p:Option Addr} {l:List Lot} (h:LotAt w p l) (hb:Below w.heap.size w w'):LotAt w' p l:=fun hl=>by
 obtain⟨b,off,rfl,hlt,hc⟩:=h hl
 refine⟨b,off,rfl,Nat.lt_of_lt_of_le hlt hb.size,fun i o ho=>?_⟩
 rw[hb.cell (p:=⟨b,off+i*3,none⟩) hlt,hb.cell (p:=⟨b,off+i*3+1,none⟩) hlt,hb.cell (p:=⟨b,off+i*3+2,none⟩) hlt]
 exact hc i o ho
theorem lot_own {w:World} {B e:Nat} {v:Value} {l:List Lot} (h:w.ownsRow B e 3 v l.length (lotV l)):∃ p c,v=.slice p l.length c/\LotAt w p l:=by
 obtain⟨p,c,rfl,_,_,hp⟩:=lw_form h
 refine⟨p,c,rfl,fun hl=>?_⟩
 obtain⟨g,rfl⟩:=hp hl
 refine⟨g,0,rfl,(h.lt g rfl).2,fun i o ho=>?_⟩
 have hi:=(List.getElem?_eq_some_iff.1 ho).1
 obtain⟨a0,a1,a2⟩:=lotV_at l i o ho
 rw[Nat.zero_add]
 exact⟨(h.cellAt _ (by omega)).trans a0,(h.cellAt _ (by omega)).trans a1,(h.cellAt _ (by omega)).trans a2⟩
theorem infoLot:(Tryz.prog.info? 302).map (fun i=>(i.zero,i.size,i.bytes))=some (some (.agg #[.int .i64 0,.int .i64 0,.string ByteArray.empty]),3,32):=by kernel_rfl
theorem infoP2:(Tryz.prog.info? 105).map (fun i=>(i.zero,i.size,i.bytes))=some (some (.agg #[.int .i64 0,.int .i64 0]),2,16):=by kernel_rfl
def encP (s:Bur.Sp):List Value:=[.int .i64 s.1,.int .i64 s.2]
def pfV (l:List Bur.Sp):List Value:=l.flatMap encP
theorem pfV_len (l:List Bur.Sp):(pfV l).length=l.length*2:=flat_len (k:=2) (fun _=>rfl) l
theorem pf_one (o:Bur.Sp):∀ u∈encP o,u.oneCell'=true:=by
 intro u hu
 simp[encP] at hu
 rcases hu with rfl|rfl <;> rfl
theorem two_new (V:World) (a b:Value) (t:TypeId):∀ j u,[a,b][j]? = some u->(V.alloc (.cells #[a,b] t)).cell? ⟨V.heap.size,j,none⟩=some u:=by
 intro j u hj
 match j,hj with
 | 0,hj=>simp at hj;subst hj;simp
 | 1,hj=>simp at hj;subst hj;simp
theorem two_at (V:World) (a b:Value) (t:TypeId) {N:Nat} (hN:N=V.heap.size):∀ j u,[a,b][j]? = some u->(V.alloc (.cells #[a,b] t)).cell? ⟨N,j,none⟩=some u:=by subst hN;exact two_new V a b t
theorem three_new (V:World) (a b c:Value) (t:TypeId):∀ j u,[a,b,c][j]? = some u->(V.alloc (.cells #[a,b,c] t)).cell? ⟨V.heap.size,j,none⟩=some u:=by
 intro j u hj
 match j,hj with
 | 0,hj=>simp at hj;subst hj;simp
 | 1,hj=>simp at hj;subst hj;simp
 | 2,hj=>simp at hj;subst hj;simp
theorem plOfLots (l:List Lot) (p:Option Addr) (c:Nat) (w:World) (hl:l.length<=1000000) (hp:LotAt w p l) :
  Calls Tryz.prog 220 #[.slice p l.length c] w fun e w'=>∃ v,e=.returned v/\w'.ownsRow w.heap.size 105 2 v l.length (pfV (l.map Prod.fst))/\Below w.heap.size w w':=by
 go_enter Tryz.func220,Tryz.ntmps220
 go_wp2_with fail
 go_loopw [3,8] (fun v i wr=>∃ (n:Nat),n<=l.length/\i=.int .i64 n/\wr.ownsRow w.heap.size 105 2 v n (pfV ((l.take n).map Prod.fst))/\Below w.heap.size w wr) (fun _ i _=>l.length - (intOf i).toNat)
 case atStart=>exact⟨0,by omega,rfl,World.ownsRow_nil _ _ _ _,below_self _⟩
 case round=>
  obtain⟨n,hn,rfl,hrow,hb⟩:=hrel
  by_cases hlt:n<l.length
  ·have hlt':(n:Int)<(l.length:Int):=by omega
   obtain⟨b,off,rfl,hbl,hc⟩:=(hp.step hb) (by omega)
   obtain⟨o,ho⟩:∃ o,l[n]? = some o:=⟨l[n],List.getElem?_eq_getElem hlt⟩
   obtain⟨d0,d1,d2⟩:=hc n o ho
   have hws:=hb.size
   have e1:Hid (pfV ((l.take n).map Prod.fst)++encP o.1=pfV ((l.take (n+1)).map Prod.fst)):=by
    show _=_
    rw[List.take_add_one,ho]
    simp[pfV]
   clear hc ho
   go_wp2_with (at_builtin;refine wpList_append_one 109 105 2 16 _ Tryz.underlying109 infoP2 rfl (by decide) (by decide) rfl _ _ rfl w.heap.size _ n (pfV ((l.take n).map Prod.fst)) rfl ((hrow.alloc _).alloc _) (by simp;omega) (wr.heap.size+1) [.int .i64 o.1.1,.int .i64 o.1.2] rfl rfl (two_at (wr.alloc (.cells #[.int .i64 o.1.1,.int .i64 o.1.2,.string o.2] 302)) _ _ 105 (by simp)) (pf_one o.1) (by omega) ?_;intro v2 w2 own2 hg2;have hb2:Below w.heap.size w w2:=((hb.alloc hws _).alloc (by simp;omega) _).grown hg2 (by simp;omega) (fun j hj=>(hrow.lt j hj).1))
   have own3:w2.ownsRow w.heap.size 105 2 v2 (n+1) (pfV ((l.take (n+1)).map Prod.fst)):=by rw[<- e1.out];exact own2
   exact⟨⟨n+1,by omega,by go_num,own3,hb2⟩,by simp[intOf];omega⟩
  ·have hlt':¬ (n:Int)<(l.length:Int):=by omega
   have hnl:n=l.length:=by omega
   subst hnl
   rw[List.take_length] at hrow
   go_wp2_with fail
   go_ret
   exact⟨_,rfl,hrow,hb⟩
theorem three_at (V:World) (a b c:Value) (t:TypeId) {N:Nat} (hN:N=V.heap.size):∀ j u,[a,b,c][j]? = some u->(V.alloc (.cells #[a,b,c] t)).cell? ⟨N,j,none⟩=some u:=by subst hN;exact three_new V a b c t
theorem plHaving (l:List Lot) (a:Int) (p:Option Addr) (c:Nat) (w:World) (hl:l.length<=1000000) (hp:LotAt w p l) :
  Calls Tryz.prog 210 #[.slice p l.length c,.int .i64 a] w fun e w'=>∃ v,e=.returned v/\w'.ownsRow w.heap.size 302 3 v (hav l a).length (lotV (hav l a))/\Below w.heap.size w w':=by
 go_enter Tryz.func210,Tryz.ntmps210
 go_wp2_with fail
 go_loopw [5,10] (fun v i wr=>∃ (n:Nat) (r:List Lot),n<=l.length/\i=.int .i64 n/\r.length<=n/\Hid (r=hav (l.take n) a)/\wr.ownsRow w.heap.size 302 3 v r.length (lotV r)/\Below w.heap.size w wr) (fun _ i _=>l.length - (intOf i).toNat)
 case atStart=>exact⟨0,[],by omega,rfl,by simp,(by show _=_;rfl),World.ownsRow_nil _ _ _ _,below_self _⟩
 case round=>
  obtain⟨n,r,hn,rfl,hrn,hM,hrow,hb⟩:=hrel
  by_cases hlt:n<l.length
  ·have hlt':(n:Int)<(l.length:Int):=by omega
   obtain⟨b,off,rfl,hbl,hc⟩:=(hp.step hb) (by omega)
   obtain⟨o,ho⟩:∃ o,l[n]? = some o:=⟨l[n],List.getElem?_eq_getElem hlt⟩
   obtain⟨d0,d1,d2⟩:=hc n o ho
   have hws:=hb.size
   have hst:Hid (hav (l.take (n+1)) a=r++(if Bur.witB a 32 o.1.1 o.1.2=true then [o] else [])):=by
    show _=_
    rw[hM.out,hav,hav,List.take_add_one,ho,List.filter_append]
    congr 1
    cases e:Bur.witB a 32 o.1.1 o.1.2 <;> simp[e]
   obtain⟨W,hW⟩:∃ W,W=wr.alloc (.cells #[.int .i64 o.1.1,.int .i64 o.1.2,.string o.2] 302):=⟨_,rfl⟩
   have bW:Below w.heap.size w W:=by rw[hW];exact hb.alloc hws _
   have g0:W.cell? ⟨wr.heap.size,0,none⟩=some (.int .i64 o.1.1):=by rw[hW];simp
   have g1:W.cell? ⟨wr.heap.size,1,none⟩=some (.int .i64 o.1.2):=by rw[hW];simp
   have g2:W.cell? ⟨wr.heap.size,2,none⟩=some (.string o.2):=by rw[hW];simp
   have hlW:wr.heap.size<W.heap.size:=by rw[hW];simp
   have rowW:=hrow.alloc (.cells #[.int .i64 o.1.1,.int .i64 o.1.2,.string o.2] 302)
   rw[<- hW] at rowW
   have KS:=plSingle a W.drew
   have KW:=fun w5=>plWithin a 32 o.1.1 o.1.2 w5
   obtain⟨bb,hbb⟩:∃ bb,bb=wr.heap.size:=⟨_,rfl⟩
   rw[<- hbb] at g0 g1 g2 hlW
   clear hc ho hrow hM
   cases hwt:Bur.witB a 32 o.1.1 o.1.2
   ·rw[hwt] at KW
    have hst2:Hid (r=hav (l.take (n+1)) a):=by
     show _=_
     rw[hst.out,hwt];simp
    clear hst hwt
    go_wp2_with fail
    rw[<- hW,<- hbb]
    clear hW hbb
    go_region_held3 (fun wy=>wy.cell? ⟨bb,0,none⟩=some (.int .i64 o.1.1)/\wy.cell? ⟨bb,1,none⟩=some (.int .i64 o.1.2)/\wy.cell? ⟨bb,2,none⟩=some (.string o.2))
     (first|exact⟨t0,t1,t2⟩|exact⟨s0,s1,s2⟩|exact⟨g0,g1,g2⟩)
     (first
      | (go_at_call 162;refine KS.mono ?_;rintro e w3 ⟨rfl,hb3⟩;have s0:=(hb3.cell (p:=⟨bb,0,none⟩) hlW).trans g0;have s1:=(hb3.cell (p:=⟨bb,1,none⟩) hlW).trans g1;have s2:=(hb3.cell (p:=⟨bb,2,none⟩) hlW).trans g2;have hl3:bb<w3.heap.size:=Nat.lt_of_lt_of_le hlW hb3.size)
      | (go_at_call 256;refine (KW _).mono ?_;rintro e w4 ⟨rfl,hb4⟩;have t0:=(hb4.cell (p:=⟨bb,0,none⟩) hl3).trans s0;have t1:=(hb4.cell (p:=⟨bb,1,none⟩) hl3).trans s1;have t2:=(hb4.cell (p:=⟨bb,2,none⟩) hl3).trans s2))
    have b4:=below_via (below_via bW.drew hb3) hb4
    have row4:=rowStep rowW (below_via (below_via (below_self W).drew hb3) hb4)
    clear g0 g1 g2 s0 s1 s2 t0 t1 t2
    go_wp2_with fail
    exact⟨⟨n+1,r,by omega,by go_num,by omega,hst2,row4,b4⟩,by simp[intOf];omega⟩
   ·rw[hwt] at KW
    have hst2:Hid (r ++ [o]=hav (l.take (n+1)) a):=by
     show _=_
     rw[hst.out,hwt];simp
    clear hst hwt
    go_wp2_with fail
    rw[<- hW,<- hbb]
    clear hW hbb
    go_region_held3 (fun wy=>wy.cell? ⟨bb,0,none⟩=some (.int .i64 o.1.1)/\wy.cell? ⟨bb,1,none⟩=some (.int .i64 o.1.2)/\wy.cell? ⟨bb,2,none⟩=some (.string o.2))
     (first|exact⟨t0,t1,t2⟩|exact⟨s0,s1,s2⟩|exact⟨g0,g1,g2⟩)
     (first
      | (go_at_call 162;refine KS.mono ?_;rintro e w3 ⟨rfl,hb3⟩;have s0:=(hb3.cell (p:=⟨bb,0,none⟩) hlW).trans g0;have s1:=(hb3.cell (p:=⟨bb,1,none⟩) hlW).trans g1;have s2:=(hb3.cell (p:=⟨bb,2,none⟩) hlW).trans g2;have hl3:bb<w3.heap.size:=Nat.lt_of_lt_of_le hlW hb3.size)
      | (go_at_call 256;refine (KW _).mono ?_;rintro e w4 ⟨rfl,hb4⟩;have t0:=(hb4.cell (p:=⟨bb,0,none⟩) hl3).trans s0;have t1:=(hb4.cell (p:=⟨bb,1,none⟩) hl3).trans s1;have t2:=(hb4.cell (p:=⟨bb,2,none⟩) hl3).trans s2))
    have b4:=below_via (below_via bW.drew hb3) hb4
    have row4:=rowStep rowW (below_via (below_via (below_self W).drew hb3) hb4)
    have hs4:=b4.size
    clear g0 g1 g2 s0 s1 s2
    go_wp2_with (at_builtin;refine wpList_append_one 288 302 3 32 _ Tryz.underlying288 infoLot rfl (by decide) (by decide) rfl _ _ rfl w.heap.size _ r.length (lotV r) rfl (row4.alloc _) (by simp;omega) w4.heap.size [.int .i64 o.1.1,.int .i64 o.1.2,.string o.2] rfl rfl (three_new _ _ _ _ _) (lot_one o) (by omega) ?_;intro v5 w5 own5 hg5;have hb5:Below w.heap.size w w5:=(b4.alloc hs4 _).grown hg5 (by simp;omega) (fun j hj=>(row4.lt j hj).1))
    have own6:w5.ownsRow w.heap.size 302 3 v5 (r ++ [o]).length (lotV (r ++ [o])):=by
     rw[List.length_append,show lotV (r ++ [o])=lotV r++encL o from by simp[lotV]]
     exact own5
    exact⟨⟨n+1,r ++ [o],by omega,by go_num,by simp;omega,hst2,own6,hb5⟩,by simp[intOf];omega⟩
  ·have hlt':¬ (n:Int)<(l.length:Int):=by omega
   have hE:Hid (r=hav l a):=by
    have:=hM.out
    rw[List.take_of_length_le (by omega)] at this
    exact this
   clear hM
   go_wp2_with fail
   go_ret
   exact⟨_,rfl,by rw[<- hE.out];exact hrow,hb⟩
end Go.Proofs.YtcjdoeclblhaeaaGreatDoor.Pa
namespace Go.Proofs.YtcjdoeclblhaeaaGreatDoor.Pa
open Go.RowKit Vs
structure En (w:World):Prop where
 tab:Tab w
 mx:MaxL w
def Gl (j:Nat):Prop:=j=8 \/ j=0
theorem En.lt {w:World} (h:En w) {j:Nat} (hj:Gl j):j<w.heap.size:=by
 rcases hj with e|e
 ·rw[e];exact h.tab.lt
 ·obtain⟨m,hm⟩:=h.mx
  rw[e];exact World.block_lt_of_cell? _ _ hm
theorem En.but {w w':World} {F:Nat->Prop} (h:En w) (hb:But F w w') (hF:∀ j,F j -> ¬ Gl j):En w':=by
 obtain⟨m,hm⟩:=h.mx
 exact⟨fun j hj=>(hb.cell (p:=⟨8,j,none⟩) h.tab.lt (fun q=>hF _ q (.inl rfl))).trans (h.tab j hj),m,(hb.cell (p:=⟨0,0,none⟩) (World.block_lt_of_cell? _ _ hm) (fun q=>hF _ q (.inr rfl))).trans hm⟩
theorem En.step {w w':World} (h:En w) (hb:Below w.heap.size w w'):En w':=h.but (F:=fun _=>False) (.below hb) (fun _ q=>q.elim)
structure Ds (T:Td) (w:World) (F:Nat->Prop) (B:Nat) (d:Dk):Prop where
 t:T w F B d
 lt:∀ j,F j->j<w.heap.size
 no:∀ j,F j -> ¬ Gl j
 en:En w
theorem Ds.step {T:Td} (V:DFace T) {w w':World} {F:Nat->Prop} {B:Nat} {d:Dk} (h:Ds T w F B d) (hb:Below w.heap.size w w'):Ds T w' F B d:=⟨V.step h.t hb,fun j hj=>Nat.lt_of_lt_of_le (h.lt j hj) hb.size,h.no,h.en.step hb⟩
structure Dj (T:Td) (F:Nat->Prop) (w w':World) (B:Nat) (d':Dk):Prop where
 ex:∃ F',Ds T w' F' B d' /\ ∀ j,F' j->Nw F w w' j
 bt:But F w w'
theorem Dj.of {T:Td} {F F':Nat->Prop} {w w':World} {B:Nat} {d d':Dk} (h:Ds T w F B d) (hT:T w' F' B d') (hF':∀ j,F' j->Nw F w w' j) (hb:But F w w'):Dj T F w w' B d':=by
 refine⟨⟨F',⟨hT,fun j hj=>?_,fun j hj q=>?_,h.en.but hb h.no⟩,hF'⟩,hb⟩
 ·rcases hF' j hj with g|g
  ·exact Nat.lt_of_lt_of_le (h.lt j g) hb.size
  ·exact g.2
 ·rcases hF' j hj with g|g
  ·exact h.no j g q
  ·have:=h.en.lt q
   have:=g.1
   omega
theorem Dj.refl {T:Td} {F:Nat->Prop} {w:World} {B:Nat} {d:Dk} (h:Ds T w F B d):Dj T F w w B d:=⟨⟨F,h,fun _ hj=>.inl hj⟩,But.refl _ _⟩
theorem Dj.step {T:Td} (V:DFace T) {F:Nat->Prop} {w w1 w2:World} {B:Nat} {d:Dk} (h:Dj T F w w1 B d) (hb:Below w1.heap.size w1 w2):Dj T F w w2 B d:=by
 obtain⟨F',h1,h2⟩:=h.ex
 exact⟨⟨F',h1.step V hb,fun j hj=>(h2 j hj).elim .inl (fun q=>.inr ⟨q.1,Nat.lt_of_lt_of_le q.2 hb.size⟩)⟩,h.bt.step hb⟩
theorem Dj.then {T:Td} {F F1:Nat->Prop} {w w1 w2:World} {B:Nat} {d2:Dk} (hb1:But F w w1) (hF1:∀ j,F1 j->Nw F w w1 j) (k:Dj T F1 w1 w2 B d2):Dj T F w w2 B d2:=by
 obtain⟨F2,h1,h2⟩:=k.ex
 have s1:=hb1.size
 have s2:=k.bt.size
 refine⟨⟨F2,h1,fun j hj=>?_⟩,hb1.then k.bt (fun j hj q=>(hF1 j q).elim id (fun g=>by have:=g.1;omega))⟩
 rcases h2 j hj with g|g
 ·rcases hF1 j g with q|q
  ·exact .inl q
  ·exact .inr ⟨q.1,by omega⟩
 ·exact .inr ⟨by omega,g.2⟩
abbrev wkA (B:Nat) (c:Cl) (i:Int):Array Value:=#[.pointer (some ⟨B,0,none⟩),.int .i64 c.what,.string c.nm,.int .i64 c.p.1,.int .i64 c.p.2,.int .i64 c.len,.int .i64 c.ad,.string c.ow,.int .i64 i]
abbrev wkV (B:Nat) (c:Cl) (i:Int):Value:=.agg (wkA B c i)
structure Wk (w:World) (b B:Nat) (c:Cl) (i:Int):Prop where
 c0:w.cell? ⟨b,0,none⟩=some (.pointer (some ⟨B,0,none⟩))
 c1:w.cell? ⟨b,1,none⟩=some (.int .i64 c.what)
 c2:w.cell? ⟨b,2,none⟩=some (.string c.nm)
 c3:w.cell? ⟨b,3,none⟩=some (.int .i64 c.p.1)
 c4:w.cell? ⟨b,4,none⟩=some (.int .i64 c.p.2)
 c5:w.cell? ⟨b,5,none⟩=some (.int .i64 c.len)
 c6:w.cell? ⟨b,6,none⟩=some (.int .i64 c.ad)
 c7:w.cell? ⟨b,7,none⟩=some (.string c.ow)
 c8:w.cell? ⟨b,8,none⟩=some (.int .i64 i)
theorem Wk.lt {w:World} {b B:Nat} {c:Cl} {i:Int} (h:Wk w b B c i):b<w.heap.size:=World.block_lt_of_cell? _ _ h.c0
theorem Wk.new (w:World) (B:Nat) (c:Cl) (i:Int) (t:Nat):Wk (w.alloc (.cells (wkA B c i) t)) w.heap.size B c i:=⟨by simp,by simp,by simp,by simp,by simp,by simp,by simp,by simp,by simp⟩
theorem Wk.but {E:Nat->Prop} {w w':World} {b B:Nat} {c:Cl} {i:Int} (h:Wk w b B c i) (hb:But E w w') (hE:¬ E b):Wk w' b B c i:=
 ⟨(hb.cell (p:=⟨b,0,none⟩) h.lt hE).trans h.c0,(hb.cell (p:=⟨b,1,none⟩) h.lt hE).trans h.c1,(hb.cell (p:=⟨b,2,none⟩) h.lt hE).trans h.c2,(hb.cell (p:=⟨b,3,none⟩) h.lt hE).trans h.c3,(hb.cell (p:=⟨b,4,none⟩) h.lt hE).trans h.c4,(hb.cell (p:=⟨b,5,none⟩) h.lt hE).trans h.c5,(hb.cell (p:=⟨b,6,none⟩) h.lt hE).trans h.c6,(hb.cell (p:=⟨b,7,none⟩) h.lt hE).trans h.c7,(hb.cell (p:=⟨b,8,none⟩) h.lt hE).trans h.c8⟩
theorem Wk.step {w w':World} {b B:Nat} {c:Cl} {i:Int} (h:Wk w b B c i) (hb:Below w.heap.size w w'):Wk w' b B c i:=h.but (E:=fun _=>False) (.below hb) id
def fnS (d:Dk) (i:Int) (k:ByteArray):ByteArray:=if dgF d i k=4 then ByteArray.empty else dgS d i k
def fnB (d:Dk) (i:Int) (k:ByteArray):Bool:=decide (dgF d i k=0)
def fnF (d:Dk) (i:Int) (k:ByteArray):Int:=if dgF d i k=4 then 0 else dgF d i k
theorem plFind {T:Td} (V:DFace T) {w:World} {F:Nat->Prop} {B:Nat} {d:Dk} (c:Cl) (i:Int) (key:ByteArray) (h:Ds T w F B d) (ok:OkD d) (sm:Sm d) (hk:key.size<=maxLen) :
  Calls Tryz.prog 163 #[wkV B c i,.string key] w fun e w'=>e=.returned (.tuple #[.string (fnS d i key),.bool (fnB d i key),ev (fnF d i key)])/\Dj T F w w' B (dgD d i key):=by
 have bA:=below_al (below_self w) (.cells (wkA B c i) 188)
 have K:=V.get i key (V.step h.t bA) ok sm (fun j hj=>Nat.lt_of_lt_of_le (h.lt j hj) bA.size) hk
 have fin:∀ w1,T w1 (Nw F (w.alloc (.cells (wkA B c i) 188)) w1) B (dgD d i key)->But F (w.alloc (.cells (wkA B c i) 188)) w1->Dj T F w w1 B (dgD d i key):=fun w1 hT hb=>Dj.then (F1:=F) (.below bA) (fun j hj=>.inl hj) (Dj.of (h.step V bA) hT (fun j hj=>hj) hb)
 have FH:Hid _:=fin
 clear fin
 have KI:=fun w1=>is_any (dgF d i key) 4 (by decide) w1
 by_cases h4:dgF d i key=4
 ·have e1:Hid (fnS d i key=ByteArray.empty/\fnB d i key=false/\fnF d i key=0):=⟨if_pos h4,by unfold fnB;rw[h4];rfl,if_pos h4⟩
  rw[h4] at K KI
  rw[show ev 4=errN 4 from rfl] at K KI
  clear h4
  go_enter Tryz.func163,Tryz.ntmps163
  go_wp2_with (first
   | (go_at_call 202;refine K.mono ?_;clear K;rintro e w1 ⟨rfl,hT1,hb1⟩)
   | (go_at_call 203;refine (KI _).mono ?_;rintro e w2 ⟨rfl,hw⟩;have:=hw.symm;subst this))
  go_ret3
  exact⟨by rw[e1.out.1,e1.out.2.1,e1.out.2.2,ev_0];rfl,FH.out _ hT1 hb1⟩
 ·have h4':(dgF d i key==4)=false:=by simpa using h4
  rw[h4'] at KI
  by_cases h0:dgF d i key=0
  ·have e1:Hid (fnS d i key=dgS d i key/\fnB d i key=true/\fnF d i key=0):=⟨if_neg h4,by unfold fnB;rw[h0];rfl,by rw[fnF,if_neg h4,h0]⟩
   rw[h0,ev_0] at K KI
   clear h0 h4 h4'
   go_enter Tryz.func163,Tryz.ntmps163
   go_wp2_with (first
    | (go_at_call 202;refine K.mono ?_;clear K;rintro e w1 ⟨rfl,hT1,hb1⟩)
    | (go_at_call 203;refine (KI _).mono ?_;rintro e w2 ⟨rfl,hw⟩;have:=hw.symm;subst this))
   go_quiet (fail)
   go_wp2_with fail
   go_ret3
   exact⟨by rw[e1.out.1,e1.out.2.1,e1.out.2.2,ev_0];rfl,(FH.out _ hT1 hb1).step V (below_drewN (below_self _) _)⟩
  ·have e1:Hid (fnS d i key=dgS d i key/\fnB d i key=false/\fnF d i key=dgF d i key):=⟨if_neg h4,by unfold fnB;simpa using h0,if_neg h4⟩
   rw[ev_ne h0] at K KI
   have E2:Hid (ev (fnF d i key)=errN (dgF d i key)):=by
    show _=_
    rw[e1.out.2.2,ev_ne h0]
   clear h0 h4 h4'
   go_enter Tryz.func163,Tryz.ntmps163
   go_wp2_with (first
    | (go_at_call 202;refine K.mono ?_;clear K;rintro e w1 ⟨rfl,hT1,hb1⟩)
    | (go_at_call 203;refine (KI _).mono ?_;rintro e w2 ⟨rfl,hw⟩;have:=hw.symm;subst this))
   go_quiet (fail)
   go_wp2_with fail
   go_ret3
   exact⟨by rw[e1.out.1,e1.out.2.1,E2.out];rfl,(FH.out _ hT1 hb1).step V (below_drewN (below_self _) _)⟩
end Go.Proofs.YtcjdoeclblhaeaaGreatDoor.Pa
namespace Vs
theorem rng_key {d:Dk} (ok:OkD d) {i:Int} {lo hi:ByteArray}:∀ p∈drS d i lo hi,p.1.size<=24:=by
 intro p hp
 unfold drS at hp
 cases e:opI d i with
 | none=>rw[e] at hp;simp at hp
 | some o=>
  rw[e] at hp
  simp only at hp
  have oko:=ok.op o (opI_some e).1
  split at hp
  ·simp at hp
  ·obtain⟨_,h2⟩:=rngO_is ok.tb (chF_ris oko.own) o.sees lo hi
   obtain⟨_,h3⟩:=(h2 p).1 hp
   unfold seeO at h3
   cases e2:ownC o.own p.1 with
   | some c=>
    obtain⟨c1,c2⟩:=ownC_some e2
    rw[<- c2]
    exact (chW_ok ((chF_ok oko.own).2 c c1)).2.1
   | none=>
    rw[e2] at h3
    obtain⟨x,hx,_,_⟩:=vget_some.1 h3
    obtain⟨h4,h5,_⟩:=see_some hx
    rw[<- h5]
    exact (ok.tb.each x h4).1.2.1
theorem lots_take (l:List Pr) (n:Nat) (x:Pr) (h:l[n]? = some x):lots (l.take (n+1))=lots (l.take n)++(match Bur.pkR x.1.data.toList with|some s=>[(s,x.2)]|none=>[]):=by
 rw[lots,lots,List.take_add_one,h,List.filterMap_append]
 congr 1
 cases e:Bur.pkR x.1.data.toList <;> simp[e]
theorem plcd_take (l:List Pr) (n:Nat) (x:Pr) (h:l[n]? = some x):plcd (l.take (n+1))=plcd (l.take n)++(Bur.raK x.1.data.toList).toList:=by
 rw[plcd,plcd,List.take_add_one,h,List.filterMap_append]
 cases e:Bur.raK x.1.data.toList <;> simp[e]
theorem lots_len (l:List Pr):(lots l).length<=l.length:=List.length_filterMap_le _ _
end Vs
namespace Go.Proofs.YtcjdoeclblhaeaaGreatDoor.Pa
open Go.RowKit Vs
theorem ba_eta (b:ByteArray):(⟨b.data.toList.toArray⟩:ByteArray)=b:=by rw[Array.toArray_toList]
theorem plLots {T:Td} (V:DFace T) {w:World} {F:Nat->Prop} {B:Nat} {d:Dk} (c:Cl) (i:Int) (h:Ds T w F B d) (ok:OkD d) (sm:Sm d) (hn:c.nm.size<=1000) :
  Calls Tryz.prog 207 #[wkV B c i] w fun e w'=>∃ v,e=.returned (.tuple #[v,ev (drF d i)]) /\ ∃ F',Ds T w' F' B (drD d i (loK 112 c.nm) (heK 112 c.nm))/\(∀ j,F' j->Nw F w w' j)/\But F w w'/\w'.ownsRow w.heap.size 302 3 v (lots (drS d i (loK 112 c.nm) (heK 112 c.nm))).length (lotV (lots (drS d i (loK 112 c.nm) (heK 112 c.nm)))) /\ ∀ j,v.ownBlock=some j -> ¬ F' j:=by
 have bA:=below_al (below_self w) (.cells (wkA B c i) 188)
 have wk:=Wk.new w B c i 188
 have hA:=h.step V bA
 have KS:=fun w'=>plStretch 112 c.nm w' hn
 obtain⟨lo,hlo⟩:∃ lo,lo=loK 112 c.nm:=⟨_,rfl⟩
 obtain⟨hi,hhi⟩:∃ hi,hi=heK 112 c.nm:=⟨_,rfl⟩
 rw[<- hlo,<- hhi] at KS
 rw[<- hlo,<- hhi]
 clear hlo hhi
 have KR:=V.range i lo hi hA.t ok sm hA.lt
 have hkey:=rng_key (lo:=lo) (hi:=hi) (i:=i) ok
 have hdl:=drS_len ok i lo hi
 have hwt:=sm.wt
 have hempty:drF d i≠0->drS d i lo hi=[]:=fun q=>by
  unfold drF at q
  unfold drS
  cases e:opI d i with
  | none=>rfl
  | some o=>
   rw[e] at q
   simp only at q ⊢
   split
   ·rfl
   ·rename_i g
    rw[if_neg g] at q
    exact absurd rfl q
 have fin:∀ F1 w1 w2,T w1 F1 B (drD d i lo hi)->(∀ j,F1 j->Nw F (w.alloc (.cells (wkA B c i) 188)) w1 j)->But F (w.alloc (.cells (wkA B c i) 188)) w1->Below w1.heap.size w1 w2->(Ds T w2 F1 B (drD d i lo hi)/\(∀ j,F1 j->Nw F w w2 j)/\But F w w2)/\(∀ j,F1 j->j<w1.heap.size):=fun F1 w1 w2 hT hF1 hb hb2=>by
  have s0:=bA.size
  have s1:=hb.size
  have s2:=hb2.size
  have hlt:∀ j,F1 j->j<w1.heap.size:=fun j hj=>(hF1 j hj).elim (fun g=>Nat.lt_of_lt_of_le (hA.lt j g) s1) (fun g=>g.2)
  refine⟨⟨⟨V.step hT hb2,fun j hj=>Nat.lt_of_lt_of_le (hlt j hj) s2,fun j hj q=>?_,(hA.en.but hb h.no).step hb2⟩,fun j hj=>?_,((But.below bA:But F w _).trans hb).step hb2⟩,hlt⟩
  ·rcases hF1 j hj with g|g
   ·exact h.no j g q
   ·have:=hA.en.lt q
    have:=g.1
    omega
  ·rcases hF1 j hj with g|g
   ·exact .inl g
   ·exact .inr ⟨by have:=g.1;omega,by have:=g.2;omega⟩
 have FH:Hid _:=fin
 have enA:∀ w1,But F (w.alloc (.cells (wkA B c i) 188)) w1->En w1:=fun w1 hb=>hA.en.but hb h.no
 have hsA:=bA.size
 have k0:=wk.c0
 have k2:=wk.c2
 have k8:=wk.c8
 clear fin
 by_cases h0:drF d i=0
 ·rw[h0,ev_0] at KR
  rw[h0,ev_0]
  generalize drS d i lo hi=P at KR hkey hdl hempty ⊢
  clear hempty h0
  go_enter Tryz.func207,Tryz.ntmps207
  go_wp2_with (first
   | (go_at_call 252;refine (KS _).mono ?_;rintro e w2 ⟨rfl,hw⟩;have:=hw.symm;subst this)
   | (go_at_call 253;refine KR.mono ?_;clear KR;rintro e w1 ⟨q,cq,F1,rfl,_,hp1,hT1,hF1,hb1⟩))
  have en1:=enA w1 hb1
  have hs1:=hb1.size
  have FI:Hid _:=fun w2 hb2=>FH.out F1 w1 w2 hT1 hF1 hb1 hb2
  have hpA:=hp1.at
  clear hT1 hF1 hb1 FH enA k0 k2 k8 hp1
  go_loopw [8,36] (fun v a wr=>∃ (n:Nat) (r:List Lot),n<=P.length/\a=.int .i64 n/\r.length<=n/\Hid (r=lots (P.take n))/\wr.ownsRow w1.heap.size 302 3 v r.length (lotV r)/\Below w1.heap.size w1 wr) (fun _ a _=>P.length - (intOf a).toNat)
  case atStart=>exact⟨0,[],by omega,rfl,by simp,(by show _=_;rfl),World.ownsRow_nil _ _ _ _,below_self _⟩
  case round=>
   obtain⟨n,r,hn',rfl,hrn,hM,hrow,hb⟩:=hrel
   by_cases hlt:n<P.length
   ·have hlt':(n:Int)<(P.length:Int):=by omega
    obtain⟨x,hx⟩:∃ x,P[n]? = some x:=⟨P[n],List.getElem?_eq_getElem hlt⟩
    obtain⟨b,off,rfl,hbl,hc⟩:=(hpA.step hb) (by omega)
    obtain⟨d0,d1⟩:=hc n x hx
    have hkx:=hkey x (List.mem_of_getElem? hx)
    have hws:=hb.size
    have hst:=lots_take P n x hx
    obtain⟨W,hW⟩:∃ W,W=wr.alloc (.cells #[.string x.1,.string x.2] 141):=⟨_,rfl⟩
    have bW:Below w1.heap.size w1 W:=by rw[hW];exact hb.alloc hws _
    have g1:W.cell? ⟨wr.heap.size,1,none⟩=some (.string x.2):=by rw[hW];simp
    have hlW:wr.heap.size<W.heap.size:=by rw[hW];simp
    have rowW:=hrow.alloc (.cells #[.string x.1,.string x.2] 141)
    rw[<- hW] at rowW
    have KP:=plReadPrefix x.1.data.toList W (by have:x.1.data.toList.length=x.1.size:=Array.length_toList
                                                omega) (en1.step bW).mx
    rw[ba_eta] at KP
    cases hR:Bur.pkR x.1.data.toList with
    | none=>
     rw[hR] at KP hst
     simp only [rpV] at KP
     have hst2:Hid (r=lots (P.take (n+1))):=by
      show _=_
      rw[hst,hM.out];simp
     clear hst hM hR hc hx hrow
     go_wp2_with (go_at_call 254;rw[<- hW];refine KP.mono ?_;clear KP;rintro e w3 ⟨rfl,hb3⟩)
     have b4:=below_al (below_via bW hb3) (.cells #[.int .i64 0,.int .i64 0] 105)
     have row4:=(rowStep rowW hb3).alloc (.cells #[.int .i64 0,.int .i64 0] 105)
     exact⟨⟨n+1,r,by omega,by go_num,by omega,hst2,row4,b4⟩,by simp[intOf];omega⟩
    | some s=>
     rw[hR] at KP hst
     simp only [rpV] at KP
     have hst2:Hid (r ++ [(s,x.2)]=lots (P.take (n+1))):=by
      show _=_
      rw[hst,hM.out]
     clear hst hM hR hc hx hrow
     go_wp2_with (first
      | (go_at_call 254;rw[<- hW];refine KP.mono ?_;clear KP;rintro e w3 ⟨rfl,hb3⟩;have s1:=(hb3.cell (p:=⟨wr.heap.size,1,none⟩) hlW).trans g1;have hl3:wr.heap.size<w3.heap.size:=Nat.lt_of_lt_of_le hlW hb3.size;have hn3:¬ wr.heap.size=w3.heap.size:=Nat.ne_of_lt hl3;have row3:=rowStep rowW hb3;have b3:=below_via bW hb3;have hs3:=b3.size)
      | (at_builtin;refine wpList_append_one 288 302 3 32 _ Tryz.underlying288 infoLot rfl (by decide) (by decide) rfl _ _ rfl w1.heap.size _ r.length (lotV r) rfl ((row3.alloc _).alloc _) (by simp;omega) (w3.heap.size+1) [.int .i64 s.1,.int .i64 s.2,.string x.2] rfl rfl (three_at _ _ _ _ _ (by simp)) (lot_one (s,x.2)) (by omega) ?_;intro v5 w5 own5 hg5;have hb5:Below w1.heap.size w1 w5:=((b3.alloc hs3 _).alloc (by simp;omega) _).grown hg5 (by simp;omega) (fun j hj=>(row3.lt j hj).1)))
     have own6:w5.ownsRow w1.heap.size 302 3 v5 (r ++ [(s,x.2)]).length (lotV (r ++ [(s,x.2)])):=by
      rw[List.length_append,show lotV (r ++ [(s,x.2)])=lotV r++encL (s,x.2) from by simp[lotV]]
      exact own5
     exact⟨⟨n+1,r ++ [(s,x.2)],by omega,by go_num,by simp;omega,hst2,own6,hb5⟩,by simp[intOf];omega⟩
   ·have hlt':¬ (n:Int)<(P.length:Int):=by omega
    have hE:Hid (r=lots P):=by
     have:=hM.out
     rw[List.take_of_length_le (by omega)] at this
     exact this
    clear hM
    go_wp2_with fail
    go_ret2
    obtain⟨⟨f1,f2,f3⟩,f4⟩:=FI.out _ hb
    exact⟨_,rfl,F1,f1,f2,f3,by rw[<- hE.out];exact ownMono (by omega) hrow,fun j hj q=>by have:=(hrow.lt j hj).1;have:=f4 j q;omega⟩
 ·rw[hempty h0] at KR
  rw[hempty h0]
  rw[ev_ne h0] at KR
  rw[ev_ne h0]
  clear h0 hempty
  go_enter Tryz.func207,Tryz.ntmps207
  go_wp2_with (first
   | (go_at_call 252;refine (KS _).mono ?_;rintro e w2 ⟨rfl,hw⟩;have:=hw.symm;subst this)
   | (go_at_call 253;refine KR.mono ?_;clear KR;rintro e w1 ⟨q,cq,F1,rfl,_,hp1,hT1,hF1,hb1⟩))
  go_ret2
  obtain⟨⟨f1,f2,f3⟩,f4⟩:=FH.out F1 w1 w1 hT1 hF1 hb1 (below_self _)
  exact⟨.slice none 0 0,rfl,F1,f1,f2,f3,World.ownsRow_nil _ _ _ _,fun j hj=>(by cases hj)⟩
end Go.Proofs.YtcjdoeclblhaeaaGreatDoor.Pa
namespace Go.Proofs.YtcjdoeclblhaeaaGreatDoor.Pa
open Go.RowKit Vs
def inW (l:List Int):List Value:=l.map (Value.int .i64)
theorem infoI:(Tryz.prog.info? 3).map (fun i=>(i.zero,i.size,i.bytes))=some (some (.int .i64 0),1,8):=by kernel_rfl
theorem one_new (V:World) (a:Value) (t:TypeId):∀ j u,[a][j]? = some u->(V.alloc (.cells #[a] t)).cell? ⟨V.heap.size,j,none⟩=some u:=by
 intro j u hj
 match j,hj with
 | 0,hj=>simp at hj;subst hj;simp
theorem plPlaced {T:Td} (V:DFace T) {w:World} {F:Nat->Prop} {B:Nat} {d:Dk} (c:Cl) (i:Int) (h:Ds T w F B d) (ok:OkD d) (sm:Sm d) (hn:c.nm.size<=1000) :
  Calls Tryz.prog 208 #[wkV B c i] w fun e w'=>∃ v,e=.returned (.tuple #[v,ev (drF d i)]) /\ ∃ F',Ds T w' F' B (drD d i (loK 97 c.nm) (heK 97 c.nm))/\(∀ j,F' j->Nw F w w' j)/\But F w w'/\w'.ownsRow w.heap.size 3 1 v (plcd (drS d i (loK 97 c.nm) (heK 97 c.nm))).length (inW (plcd (drS d i (loK 97 c.nm) (heK 97 c.nm)))) /\ ∀ j,v.ownBlock=some j -> ¬ F' j:=by
 have bA:=below_al (below_self w) (.cells (wkA B c i) 188)
 have wk:=Wk.new w B c i 188
 have hA:=h.step V bA
 have KS:=fun w'=>plStretch 97 c.nm w' hn
 obtain⟨lo,hlo⟩:∃ lo,lo=loK 97 c.nm:=⟨_,rfl⟩
 obtain⟨hi,hhi⟩:∃ hi,hi=heK 97 c.nm:=⟨_,rfl⟩
 rw[<- hlo,<- hhi] at KS
 rw[<- hlo,<- hhi]
 clear hlo hhi
 have KR:=V.range i lo hi hA.t ok sm hA.lt
 have hkey:=rng_key (lo:=lo) (hi:=hi) (i:=i) ok
 have hdl:=drS_len ok i lo hi
 have hwt:=sm.wt
 have hempty:drF d i≠0->drS d i lo hi=[]:=fun q=>by
  unfold drF at q
  unfold drS
  cases e:opI d i with
  | none=>rfl
  | some o=>
   rw[e] at q
   simp only at q ⊢
   split
   ·rfl
   ·rename_i g
    rw[if_neg g] at q
    exact absurd rfl q
 have fin:∀ F1 w1 w2,T w1 F1 B (drD d i lo hi)->(∀ j,F1 j->Nw F (w.alloc (.cells (wkA B c i) 188)) w1 j)->But F (w.alloc (.cells (wkA B c i) 188)) w1->Below w1.heap.size w1 w2->(Ds T w2 F1 B (drD d i lo hi)/\(∀ j,F1 j->Nw F w w2 j)/\But F w w2)/\(∀ j,F1 j->j<w1.heap.size):=fun F1 w1 w2 hT hF1 hb hb2=>by
  have s0:=bA.size
  have s1:=hb.size
  have s2:=hb2.size
  have hlt:∀ j,F1 j->j<w1.heap.size:=fun j hj=>(hF1 j hj).elim (fun g=>Nat.lt_of_lt_of_le (hA.lt j g) s1) (fun g=>g.2)
  refine⟨⟨⟨V.step hT hb2,fun j hj=>Nat.lt_of_lt_of_le (hlt j hj) s2,fun j hj q=>?_,(hA.en.but hb h.no).step hb2⟩,fun j hj=>?_,((But.below bA:But F w _).trans hb).step hb2⟩,hlt⟩
  ·rcases hF1 j hj with g|g
   ·exact h.no j g q
   ·have:=hA.en.lt q
    have:=g.1
    omega
  ·rcases hF1 j hj with g|g
   ·exact .inl g
   ·exact .inr ⟨by have:=g.1;omega,by have:=g.2;omega⟩
 have FH:Hid _:=fin
 have enA:∀ w1,But F (w.alloc (.cells (wkA B c i) 188)) w1->En w1:=fun w1 hb=>hA.en.but hb h.no
 have hsA:=bA.size
 have k0:=wk.c0
 have k2:=wk.c2
 have k8:=wk.c8
 clear fin
 by_cases h0:drF d i=0
 ·rw[h0,ev_0] at KR
  rw[h0,ev_0]
  generalize drS d i lo hi=P at KR hkey hdl hempty ⊢
  clear hempty h0
  go_enter Tryz.func208,Tryz.ntmps208
  go_wp2_with (first
   | (go_at_call 252;refine (KS _).mono ?_;rintro e w2 ⟨rfl,hw⟩;have:=hw.symm;subst this)
   | (go_at_call 253;refine KR.mono ?_;clear KR;rintro e w1 ⟨q,cq,F1,rfl,_,hp1,hT1,hF1,hb1⟩))
  have en1:=enA w1 hb1
  have hs1:=hb1.size
  have FI:Hid _:=fun w2 hb2=>FH.out F1 w1 w2 hT1 hF1 hb1 hb2
  have hpA:=hp1.at
  clear hT1 hF1 hb1 FH enA k0 k2 k8 hp1
  go_loopw [8,36] (fun v a wr=>∃ (n:Nat) (r:List Int),n<=P.length/\a=.int .i64 n/\r.length<=n/\Hid (r=plcd (P.take n))/\wr.ownsRow w1.heap.size 3 1 v r.length (inW r)/\Below w1.heap.size w1 wr) (fun _ a _=>P.length - (intOf a).toNat)
  case atStart=>exact⟨0,[],by omega,rfl,by simp,(by show _=_;rfl),World.ownsRow_nil _ _ _ _,below_self _⟩
  case round=>
   obtain⟨n,r,hn',rfl,hrn,hM,hrow,hb⟩:=hrel
   by_cases hlt:n<P.length
   ·have hlt':(n:Int)<(P.length:Int):=by omega
    obtain⟨x,hx⟩:∃ x,P[n]? = some x:=⟨P[n],List.getElem?_eq_getElem hlt⟩
    obtain⟨b,off,rfl,hbl,hc⟩:=(hpA.step hb) (by omega)
    obtain⟨d0,d1⟩:=hc n x hx
    have hkx:=hkey x (List.mem_of_getElem? hx)
    have hws:=hb.size
    have hst:=plcd_take P n x hx
    obtain⟨W,hW⟩:∃ W,W=wr.alloc (.cells #[.string x.1,.string x.2] 141):=⟨_,rfl⟩
    have bW:Below w1.heap.size w1 W:=by rw[hW];exact hb.alloc hws _
    have rowW:=hrow.alloc (.cells #[.string x.1,.string x.2] 141)
    rw[<- hW] at rowW
    have KP:=plReadAddr x.1.data.toList W (by have:x.1.data.toList.length=x.1.size:=Array.length_toList
                                              omega) (en1.step bW).mx
    rw[ba_eta] at KP
    cases hR:Bur.raK x.1.data.toList with
    | none=>
     rw[hR] at KP hst
     have hst2:Hid (r=plcd (P.take (n+1))):=by
      show _=_
      rw[hst,hM.out];simp
     clear hst hM hR hc hx hrow
     have KP':Calls Tryz.prog 255 #[.string x.1] W fun e w'=>e=.returned (.tuple #[.string ⟨#[]⟩,.int .i64 0,errN 5])/\Below W.heap.size W w':=KP
     clear KP
     go_wp2_with (go_at_call 255;rw[<- hW];refine KP'.mono ?_;clear KP';rintro e w3 ⟨rfl,hb3⟩)
     exact⟨⟨n+1,r,by omega,by go_num,by omega,hst2,rowStep rowW hb3,below_via bW hb3⟩,by simp[intOf];omega⟩
    | some s=>
     rw[hR] at KP hst
     have hst2:Hid (r ++ [s]=plcd (P.take (n+1))):=by
      show _=_
      rw[hst,hM.out];simp
     clear hst hM hR hc hx hrow
     have KP':Calls Tryz.prog 255 #[.string x.1] W fun e w'=>e=.returned (.tuple #[.string ⟨(Bur.pkN x.1.data.toList).toArray⟩,.int .i64 s,.nilIface])/\Below W.heap.size W w':=KP
     generalize Bur.pkN x.1.data.toList=nn at KP'
     clear KP
     go_wp2_with (first
      | (go_at_call 255;rw[<- hW];refine KP'.mono ?_;clear KP';rintro e w3 ⟨rfl,hb3⟩;have row3:=rowStep rowW hb3;have b3:=below_via bW hb3;have hs3:=b3.size)
      | (at_builtin;refine wpList_append_one 291 3 1 8 _ Tryz.underlying291 infoI rfl (by decide) (by decide) rfl _ _ rfl w1.heap.size _ r.length (inW r) rfl (row3.alloc _) (by simp;omega) w3.heap.size [.int .i64 s] rfl rfl (one_new _ _ _) (fun u hu=>by rw[List.mem_singleton.1 hu];rfl) (by omega) ?_;intro v5 w5 own5 hg5;have hb5:Below w1.heap.size w1 w5:=(b3.alloc hs3 _).grown hg5 (by simp;omega) (fun j hj=>(row3.lt j hj).1)))
     have own6:w5.ownsRow w1.heap.size 3 1 v5 (r ++ [s]).length (inW (r ++ [s])):=by
      rw[List.length_append,show inW (r ++ [s])=inW r ++ [.int .i64 s] from by simp[inW]]
      exact own5
     exact⟨⟨n+1,r ++ [s],by omega,by go_num,by simp;omega,hst2,own6,hb5⟩,by simp[intOf];omega⟩
   ·have hlt':¬ (n:Int)<(P.length:Int):=by omega
    have hE:Hid (r=plcd P):=by
     have:=hM.out
     rw[List.take_of_length_le (by omega)] at this
     exact this
    clear hM
    go_wp2_with fail
    go_ret2
    obtain⟨⟨f1,f2,f3⟩,f4⟩:=FI.out _ hb
    exact⟨_,rfl,F1,f1,f2,f3,by rw[<- hE.out];exact ownMono (by omega) hrow,fun j hj q=>by have:=(hrow.lt j hj).1;have:=f4 j q;omega⟩
 ·rw[hempty h0] at KR
  rw[hempty h0]
  rw[ev_ne h0] at KR
  rw[ev_ne h0]
  clear h0 hempty
  go_enter Tryz.func208,Tryz.ntmps208
  go_wp2_with (first
   | (go_at_call 252;refine (KS _).mono ?_;rintro e w2 ⟨rfl,hw⟩;have:=hw.symm;subst this)
   | (go_at_call 253;refine KR.mono ?_;clear KR;rintro e w1 ⟨q,cq,F1,rfl,_,hp1,hT1,hF1,hb1⟩))
  go_ret2
  obtain⟨⟨f1,f2,f3⟩,f4⟩:=FH.out F1 w1 w1 hT1 hF1 hb1 (below_self _)
  exact⟨.slice none 0 0,rfl,F1,f1,f2,f3,World.ownsRow_nil _ _ _ _,fun j hj=>(by cases hj)⟩
end Go.Proofs.YtcjdoeclblhaeaaGreatDoor.Pa
