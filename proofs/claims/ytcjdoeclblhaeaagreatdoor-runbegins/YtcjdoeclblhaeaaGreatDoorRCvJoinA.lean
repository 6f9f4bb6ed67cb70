/- -/
import Derived.Test.YtcjdoeclblhaeaaGreatDoorRCvShelf
import Derived.Test.YtcjdoeclblhaeaaGreatDoorRShelf
import Derived.Test.YtcjdoeclblhaeaaGreatDoorRCvMath
import Derived.Test.YtcjdoeclblhaeaaGreatDoorRSpWalkA
import Derived.Shelf.SlSortCmp.NoneTotal
set_option maxHeartbeats 8000000
set_option maxRecDepth 100000
namespace Bur
def jn:Option Sp->List Sp->List Sp
 | cur,[]=>cur.toList
 | none,s :: r=>jn (some s) r
 | some c,s :: r=>if s.1<=c.2+1 then jn (some (c.1,max c.2 s.2)) r else c :: jn (some s) r
theorem jn_spec:∀ (r:List Sp) (c:Sp),c.1<=c.2->(∀ s∈r,c.1<=s.1/\s.1<=s.2)->r.Pairwise (fun s t=>s.1<=t.1) →
  (∀ h,h+1<c.1->IsS h (jn (some c) r)) /\ ∀ x,mem (jn (some c) r) x=mem (c :: r) x
 | [],c,h1,_,_=>⟨fun h hh=>⟨hh,h1,trivial⟩,fun x=>rfl⟩
 | s :: r,c,h1,h2,h3=>by
  have hs:=h2 s (by simp)
  have h3':=List.pairwise_cons.1 h3
  rw[jn]
  by_cases hc:s.1<=c.2+1
  ·rw[if_pos hc]
   obtain⟨i1,i2⟩:=jn_spec r (c.1,max c.2 s.2) (by show c.1<=max c.2 s.2;omega) (fun t ht=>h2 t (by simp[ht])) h3'.2
   refine⟨i1,fun x=>?_⟩
   rw[i2,mem_cons,mem_cons,mem_cons,<- Bool.or_assoc]
   congr 1
   rw[Bool.eq_iff_iff]
   simp only [Bool.or_eq_true,Bool.and_eq_true,decide_eq_true_eq]
   constructor
   ·rintro ⟨g1,g2⟩
    by_cases g:x<=c.2
    ·exact .inl ⟨g1,g⟩
    ·exact .inr ⟨by omega,by omega⟩
   ·rintro (⟨g1,g2⟩|⟨g1,g2⟩)
    ·exact⟨g1,by omega⟩
    ·exact⟨by omega,by omega⟩
  ·rw[if_neg hc]
   obtain⟨i1,i2⟩:=jn_spec r s hs.2 (fun t ht=>⟨h3'.1 t ht,(h2 t (by simp[ht])).2⟩) h3'.2
   exact⟨fun h hh=>⟨hh,h1,i1 c.2 (by omega)⟩,fun x=>by rw[mem_cons,i2];rfl⟩
theorem jn_mk {xs ys:List Sp} (hA:InA xs) (hp:ys.Perm xs) (hs:ys.Pairwise (fun s t=>s.1<=t.1)):jn none ys=mk xs:=by
 obtain⟨m1,m2,m3,m4⟩:=mk_set hA
 have hm:∀ x,mem ys x=mem xs x:=fun x=>by
  rw[Bool.eq_iff_iff,mem_iff,mem_iff]
  exact⟨fun⟨s,h,g⟩=>⟨s,hp.mem_iff.1 h,g⟩,fun⟨s,h,g⟩=>⟨s,hp.mem_iff.2 h,g⟩⟩
 have hA':InA ys:=fun s h=>hA s (hp.mem_iff.1 h)
 match ys,hs,hm,hA' with
 | [],_,hm,_=>
  have:mk xs=[]:=IsS.uniq (h := -2) m1 trivial (fun x=>by rw[m2,<- hm])
  rw[this];rfl
 | s :: r,hs,hm,hA'=>
  have hs':=List.pairwise_cons.1 hs
  have h0:=hA' s (by simp)
  obtain⟨i1,i2⟩:=jn_spec r s h0.2.1 (fun t ht=>⟨hs'.1 t ht,(hA' t (by simp[ht])).2.1⟩) hs'.2
  exact IsS.uniq (i1 (-2) (by omega)) m1 (fun x=>by rw[show jn none (s :: r)=jn (some s) r from rfl,i2,m2,hm])
end Bur
namespace Go.Proofs.YtcjdoeclblhaeaaGreatDoor.Sa
open Go.RowKit Go.Shelf Go.Lib Go.Sort
def encS (x:Int×Int):List Value:=[.int .i64 x.1,.int .i64 x.2]
abbrev cfS (x y:Int×Int):Int:=Lib.compareInt x.1 y.1
theorem ltS (x y:Int×Int):ltOf cfS x y=decide (x.1<y.1):=by
 unfold ltOf cfS Lib.compareInt
 by_cases h1:x.1<y.1
 ·simp[h1]
 ·by_cases h2:y.1<x.1 <;> simp[h1,h2]
theorem swoS:SWO (ltOf cfS) where
 irrefl x:=by rw[ltS];simp
 trans x y z h1 h2:=by rw[ltS] at *;simp at *;omega
 ntrans x y z h1 h2:=by rw[ltS] at *;simp at *;omega
theorem closureS (x y:Int×Int) (W:World):Calls Tryz.prog 311 #[.agg #[.int .i64 x.1,.int .i64 x.2],.agg #[.int .i64 y.1,.int .i64 y.2]] W fun e w'=>e=.returned (.int .i64 (Lib.compareInt x.1 y.1)) /\ ∃ q os',w'=grow (W.drewN q) os':=by
 have hcon:=fun W'=>Tryz.cmp_Compare_int x.1 y.1 W'
 generalize Lib.compareInt x.1 y.1=r at hcon ⊢
 go_enter Tryz.func311,Tryz.ntmps311
 go_wp2_with (go_at_call 312;refine (hcon _).mono ?_;rintro e w' ⟨rfl,rfl⟩)
 go_ret
 exact⟨rfl,0,_,by rw[alloc_eq_grow,alloc_eq_grow,grow_grow];rfl⟩
theorem cmpS (blk off size:Nat) (w:World):CmpLays Tryz.prog 311 #[] encS 2 cfS blk off size w:=
 fun _ _ _ _ x y=>closureS x y _
theorem grownBy_sorted2 {w:World} {g n:Nat} {os:Array Obj} (d:Array (Int×Int)):w.grownBy (sortWorldK encS 2 w g 0 n d os) (some g):=by
 refine⟨rfl,rfl,rfl,by have:=size_sortWorldK_c encS 2 w g 0 n d os;exact this,fun k hk hne=>?_⟩
 unfold sortWorldK
 rw[heap_grow_old _ _ (by rw[size_putRowK];simpa using hk)]
 have:g≠k:=fun e=>hne (by rw[e])
 simp[putRowK,putRow,mapBlock,Sort.ahead,Array.getElem?_modify,this]
theorem holds_spV {w:World} {B g cap:Nat} {xs:List Bur.Sp} (h:w.ownsRow B 346 2 (.slice (some ⟨g,0,none⟩) xs.length cap) xs.length (spV xs)):HoldsK encS 2 w g 0 xs.toArray:=by
 intro j hj
 rw[size_flatK] at hj
 have hj':j<xs.length*2:=by simpa using hj
 rw[get_flatK _ _ _ _ hj]
 have hi:j / 2<xs.length:=by omega
 have hx:xs.toArray[j / 2]! = (lo xs (j / 2),Go.Proofs.YtcjdoeclblhaeaaGreatDoor.Sa.hi xs (j / 2)):=by
  simp[lo,Go.Proofs.YtcjdoeclblhaeaaGreatDoor.Sa.hi,List.getD,hi]
 have hv:=spV_at xs (j / 2) hi
 rw[hx,Nat.zero_add,h.cellAt j (by omega)]
 refine⟨?_,h.frozenAt _⟩
 rcases Nat.mod_two_eq_zero_or_one j with e|e
 ·have ej:j=j / 2*2:=by omega
  rw[e]
  conv=>lhs;rw[ej]
  rw[hv.1];rfl
 ·have ej:j=j / 2*2+1:=by omega
  rw[e]
  conv=>lhs;rw[ej]
  rw[hv.2];rfl
theorem spAt_holds {w:World} {g:Nat} {d:Array (Int×Int)} (h:HoldsK encS 2 w g 0 d) (hg:g<w.heap.size):SpAt w (some ⟨g,0,none⟩) d.toList:=fun _=>⟨g,0,rfl,hg,fun i hlt=>by
 have hi:i<d.size:=by simpa using hlt
 have h0:=(h.cell hi (c:=0) (by decide)).1
 have h1:=(h.cell hi (c:=1) (by decide)).1
 have hx:d[i]! = (lo d.toList i,Go.Proofs.YtcjdoeclblhaeaaGreatDoor.Sa.hi d.toList i):=by
  simp[lo,Go.Proofs.YtcjdoeclblhaeaaGreatDoor.Sa.hi,List.getD,hi]
 rw[hx] at h0 h1
 exact⟨by simpa [encS] using h0,by simpa [encS] using h1⟩⟩
theorem sortFn (B g cap:Nat) (xs:List Bur.Sp) (w:World) (hown:w.ownsRow B 346 2 (.slice (some ⟨g,0,none⟩) xs.length cap) xs.length (spV xs)) (hB:B<=g) (hg:g<w.heap.size) (hBw:B<=w.heap.size) (hl:xs.length<=1000) :
  Calls Tryz.prog 310 #[.slice (some ⟨g,0,none⟩) xs.length cap,.func (.func 311) #[] #[]] w fun e w'=>e=.returned (.tuple #[]) /\ ∃ ys:List Bur.Sp,ys.Perm xs/\ys.Pairwise (fun s t=>s.1<=t.1)/\SpAt w' (some ⟨g,0,none⟩) ys/\Below B w w':=by
 have eg:∀ args w,(callFunc 311 args).run Tryz.prog w=.ok (.enter 311 args) w:=enters_of Tryz.func311 (by kernel_rfl) rfl
 have hH:=holds_spV hown
 have hcon:=AnyQ.slices_SortFunc Tryz.laySortS 2 Tryz.isAgg346 Tryz.sizeOf346 encS (fun _=>rfl) (fun x v hv=>by simp[encS] at hv;rcases hv with rfl|rfl <;> rfl) cfS swoS 311 #[] g 0 cap xs.toArray w eg (cmpS g 0 _ w) hH hg (by simp;omega)
 change Calls Tryz.prog 310 _ _ _ at hcon
 rw[show xs.toArray.size=xs.length from by simp] at hcon
 refine hcon.mono ?_
 rintro e w' ⟨rfl,d',n,os,hp,hs,rfl⟩
 have hsz:d'.size=xs.length:=by simpa using hp.1
 refine⟨rfl,d'.toList,?_,?_,spAt_holds (holdsK_sortWorldK_c encS 2 w g 0 xs.toArray d' n os hH hg (by simpa using hsz)) (by have:=size_sortWorldK_c encS 2 w g 0 n d' os;omega),(Below.refl B w).grown (grownBy_sorted2 d') hBw (fun j e=>by cases e;exact hB)⟩
 ·have:=hp.2.2
  rw[show d'.extract 0 xs.length=d' from by rw[<- hsz];simp,show xs.toArray.extract 0 xs.length=xs.toArray from by simp] at this
  simpa using this
 ·rw[List.pairwise_iff_getElem]
  intro i j hi hj hij
  have:=hs i j (by omega) hij (by simp at hj ⊢;omega)
  rw[ltS] at this
  simp at hi hj
  simp[hi,hj] at this
  simpa using this
theorem sortNone (p:Option Addr) (cap:Nat) (fv:Value) (w:World):Calls Tryz.prog 310 #[.slice p 0 cap,fv] w fun e w'=>e=.returned (.tuple #[])/\w'=w:=
 AnyF.slices_SortFunc_none Tryz.laySortS p cap fv w
end Go.Proofs.YtcjdoeclblhaeaaGreatDoor.Sa
namespace Go.Proofs.YtcjdoeclblhaeaaGreatDoor.Sa
open Go.RowKit
theorem join2 {ys xs:List Bur.Sp} {p:Option Addr} {cap B:Nat} {w wx:World} {c1 c2 c3 c4 c5 c6 c7 c8 c9 c10 c11 c12 c13 c14 c15 c16 c17 c18 c19 c20 c21 c22 c23 c24 c25 c26 c27 c28 c29 c30 c31 c32 c33 c34 c35 c36 c37 c38 c39 c40 c41 c42 c43 c44 c45 c46 c47 c48 c49 c50:Value} (hl:ys.length<=1000) (hA:Bur.InA ys) (E:Hid (Bur.jn none ys=Bur.mk xs)) (hs:SpAt wx p ys) (hBw:B<=wx.heap.size) (hb:Below B w wx) :
  Code.wp Tryz.prog (dropSeq 2 (Tryz.f307.body.getD .skip)) (bodyPost Tryz.prog Tryz.f307 fun e w'=>∃ (q:Option Addr) (cq:Nat),e=.returned (.slice q (Bur.mk xs).length cq)/\SpAt w' q (Bur.mk xs)/\Below B w w') ⟨#[.slice p ys.length cap,c1,c2,c3,c4,c5,c6,c7,c8,c9,c10,c11,c12,c13,c14,c15,c16,c17,c18,c19,c20,c21,c22,c23,c24,c25,c26,c27,c28,c29,c30,c31,c32,c33,c34,c35,c36,c37,c38,c39,c40,c41,c42,c43,c44,c45,c46,c47,c48,c49,c50],[]⟩ wx:=by
 obtain⟨i0,hin,hz0,hz1,hz2⟩:=info_parts info_span
 conv=>arg 2;whnf
 go_wp2_with fail
 go_loopw [3,11] (fun v i wr=>∃ (k:Nat) (done:List Bur.Sp) (cur:Option Bur.Sp),k<=ys.length/\i=.int .i64 k/\(rowT done cur).length<=k/\Hid (cur=none->done=[])/\Hid (∀ c,cur=some c->0<=c.2/\c.2<=4294967295)/\Hid (Bur.mk xs=done++Bur.jn cur (ys.drop k))/\wr.ownsRow wx.heap.size 346 2 v (rowT done cur).length (spV (rowT done cur))/\Below wx.heap.size wx wr) (fun _ i _=>ys.length - (intOf i).toNat)
 case atStart=>exact⟨0,[],none,by omega,rfl,by simp[rowT],fun _=>rfl,(fun _ h=>by cases h),E.out.symm,World.ownsRow_nil _ _ _ _,below_self _⟩
 case round=>
  obtain⟨k,done,cur,hk,rfl,hrl,hcn,hcb,R,hown,hbw⟩:=hrel
  have hsz:=hbw.size
  by_cases hlt:k<ys.length
  ·have hlt':(k:Int)<(ys.length:Int):=by omega
   obtain⟨b,off,rfl,hbl,hc⟩:=hs (by omega)
   have hcb2:=bcell hbw
   have c0:wr.cell? ⟨b,off+k*2,none⟩=some (.int .i64 (lo ys k)):=(hcb2.1 _ _ hbl).trans (hc k hlt).1
   have c1:wr.cell? ⟨b,off+k*2+1,none⟩=some (.int .i64 (hi ys k)):=(hcb2.1 _ _ hbl).trans (hc k hlt).2
   have ok:=hA (lo ys k,hi ys k) (by
    have:(lo ys k,hi ys k)∈ys.drop k:=by rw[drop_sp hlt];simp
    exact List.mem_of_mem_drop this)
   simp only at ok
   obtain⟨a,ha⟩:∃ a,lo ys k=a:=⟨_,rfl⟩
   obtain⟨z,hz⟩:∃ z,hi ys k=z:=⟨_,rfl⟩
   have hd:Hid (ys.drop k=(a,z) :: ys.drop (k+1)):=by show _=_;rw[drop_sp hlt,ha,hz]
   rw[ha] at c0 ok
   rw[hz] at c1 ok
   clear ha hz hc hcb2 hs hA
   obtain⟨W,hW⟩:∃ W,W=wr:=⟨_,rfl⟩
   subst hW
   obtain⟨N,hN⟩:∃ N,Hid ((rowT done cur).length=N):=⟨_,rfl⟩
   rw[hN.out] at hown hrl
   obtain⟨pv,cv,rfl⟩:=own_form hown
   go_upto_region 6 with fail
   have x0:(W.alloc (.cells #[.int .i64 a,.int .i64 z] 346)).cell? ⟨W.heap.size,0,none⟩=some (.int .i64 a):=by simp
   have x1:(W.alloc (.cells #[.int .i64 a,.int .i64 z] 346)).cell? ⟨W.heap.size,1,none⟩=some (.int .i64 z):=by simp
   have ownA:=hown.alloc (.cells #[.int .i64 a,.int .i64 z] 346)
   have bA:=below_al hbw (.cells #[.int .i64 a,.int .i64 z] 346)
   obtain⟨Bx,hBx⟩:∃ Bx,W.heap.size=Bx:=⟨_,rfl⟩
   rw[hBx] at x0 x1 ⊢
   have hBx2:wx.heap.size<=Bx:=by omega
   have hrow:∀ j,(Value.slice pv N cv).ownBlock=some j->j<Bx:=fun j hj=>by have:=(hown.lt j hj).2;omega
   obtain⟨U,hU⟩:∃ U,W.alloc (.cells #[.int .i64 a,.int .i64 z] 346)=U:=⟨_,rfl⟩
   have hUs:Bx<U.heap.size:=by rw[<- hU];simp;omega
   rw[hU] at x0 x1 ownA bA ⊢
   clear hU hBx hown hbw c0 c1
   cases cur with
   | none=>
     have R2:Hid (Bur.mk xs=done++Bur.jn (some (a,z)) (ys.drop (k+1))):=by
      show _=_
      rw[R.out,hd.out,Bur.jn]
     have hN0:Hid (done.length=N):=hN.out
     have hg:decide ((0:Int)<(N:Int))=false:=by
      have hn0:N=0:=by rw[<- hN0.out,hcn.out rfl];rfl
      simp;omega
     have hg2:decide (0<N)=false:=by
      have hn0:N=0:=by rw[<- hN0.out,hcn.out rfl];rfl
      simp;omega
     clear R hd hcb
     go_upto_region 7 with fail
     go_cut [30] from 17 to 29 (fun c wy=>c=.bool false /\ ∃ n,wy=U.drewN n)
     case first=>
      clear ownA bA
      go_quiet (fail)
      go_wp2_with fail
      go_meet
      case rel=>exact⟨rfl,_,rfl⟩
     case rest=>
     obtain⟨rfl,n,hw⟩:=hcut
     have hownV:=own_drewN ownA n
     have hbV:=below_drewN bA n
     have y0:(U.drewN n).cell? ⟨Bx,0,none⟩=some (.int .i64 a):=x0
     have y1:(U.drewN n).cell? ⟨Bx,1,none⟩=some (.int .i64 z):=x1
     have hUs2:Bx<(U.drewN n).heap.size:=hUs
     rw[<- hw] at hownV hbV y0 y1 hUs2
     clear hw ownA bA x0 x1 hUs
     obtain⟨V,hV⟩:∃ V,V=wc:=⟨_,rfl⟩
     subst hV
     have hszV:wx.heap.size<=V.heap.size:=hbV.size
     go_wp2_with (at_builtin;refine wpList_append_own _ rfl _ _ 342 rfl wx.heap.size 346 i0 (.agg #[.int .i64 0,.int .i64 0]) 2 16 Tryz.underlying342 hin hz0 hz1 hz2 rfl (by decide) _ _ _ rfl (hownV.alloc _) ⟨V.heap.size,0,none⟩ 1 1 [.int .i64 a,.int .i64 z] rfl rfl (two_new rfl) two_one (by unfold maxLen;omega) (by omega) (by simp;omega) ?_;intro v' w2 hown3 hgrow _;have hb4:Below wx.heap.size wx w2:=(below_al hbV _).grown hgrow (by simp;omega) (fun j hj=>(hownV.lt j hj).1);clear hgrow hownV)
     go_wp2_with fail
     exact⟨⟨k+1,done,some (a,z),by omega,by go_num,by simp[rowT];rw[hN0.out];omega,(fun h=>by cases h),(fun c h=>by cases h;exact⟨by show 0<=z;omega,by show z<=4294967295;omega⟩),R2,by simp only [rowT,List.length_append,List.length_cons,List.length_nil,Nat.zero_add,spV_app];rw[hN0.out];exact hown3,hb4⟩,by simp[intOf];omega⟩
   | some c=>
     have hcc:=hcb.out c rfl
     obtain⟨c1,c2⟩:=c
     simp only at hcc
     have hN1:Hid (done.length+1=N):=by show _=_;rw[<- hN.out];simp[rowT]
     have hn0:0<N:=by have:=hN1.out;omega
     have hg:decide ((0:Int)<(N:Int))=true:=by simp;omega
     have a1:(0:Int)<=(N:Int) - 1:=by omega
     have a2:(N:Int) - 1<(N:Int):=by omega
     have a3:((N:Int) - 1).toNat=N - 1:=by omega
     have a4:IntKind.i64.wrap ((N:Int) - 1)=(N:Int) - 1:=Bur.wrap_i64_id _ (by omega) (by omega)
     have a5:IntKind.i64.wrap (c2+1)=c2+1:=Bur.wrap_i64_id _ (by omega) (by omega)
     have ownA':U.ownsRow wx.heap.size 346 2 (.slice pv N cv) N (spV (done ++ [(c1,c2)])):=ownA
     obtain⟨g,cp,hgv,hg0,hg1⟩:=ownA'.form (by omega)
     cases hgv
     have hgBx:g≠Bx:=by have:=hrow g rfl;omega
     have hgN:Hid ((N - 1)*2+1=done.length*2+1):=by show _=_;have:=hN1.out;omega
     have e1:U.cell? ⟨g,(N - 1)*2+1,none⟩=some (.int .i64 c2):=by
      rw[hgN.out,ownA'.cellAt (done.length*2+1) (by have:=hN1.out;omega)]
      rw[spV_app,List.getElem?_append_right (by rw[spV_len];omega),spV_len,show done.length*2+1 - done.length*2=1 from by omega]
      rfl
     replace ownA:=ownA'
     clear ownA'
     cases ht:decide (a<=c2+1)
     ·have R2:Hid (Bur.mk xs=(done ++ [(c1,c2)])++Bur.jn (some (a,z)) (ys.drop (k+1))):=by
       show _=_
       rw[R.out,hd.out,Bur.jn,if_neg (by simpa using ht)];simp
      clear R hd hcb
      go_upto_region 7 with fail
      go_cut [30] from 17 to 29 (fun c wy=>c=.bool false /\ ∃ n,wy=U.drewN n)
      case first=>
       clear ownA bA
       go_quiet (fail)
       go_wp2_with fail
       go_meet
       case rel=>exact⟨rfl,_,rfl⟩
      case rest=>
      obtain⟨rfl,n,hw⟩:=hcut
      have hownV:=own_drewN ownA n
      have hbV:=below_drewN bA n
      have y0:(U.drewN n).cell? ⟨Bx,0,none⟩=some (.int .i64 a):=x0
      have y1:(U.drewN n).cell? ⟨Bx,1,none⟩=some (.int .i64 z):=x1
      have hUs2:Bx<(U.drewN n).heap.size:=hUs
      rw[<- hw] at hownV hbV y0 y1 hUs2
      clear hw ownA bA x0 x1 hUs e1
      obtain⟨V,hV⟩:∃ V,V=wc:=⟨_,rfl⟩
      subst hV
      have hszV:wx.heap.size<=V.heap.size:=hbV.size
      go_wp2_with (at_builtin;refine wpList_append_own _ rfl _ _ 342 rfl wx.heap.size 346 i0 (.agg #[.int .i64 0,.int .i64 0]) 2 16 Tryz.underlying342 hin hz0 hz1 hz2 rfl (by decide) _ _ _ rfl (hownV.alloc _) ⟨V.heap.size,0,none⟩ 1 1 [.int .i64 a,.int .i64 z] rfl rfl (two_new rfl) two_one (by unfold maxLen;omega) (by omega) (by simp;omega) ?_;intro v' w2 hown3 hgrow _;have hb4:Below wx.heap.size wx w2:=(below_al hbV _).grown hgrow (by simp;omega) (fun j hj=>(hownV.lt j hj).1);clear hgrow hownV)
      go_wp2_with fail
      exact⟨⟨k+1,done ++ [(c1,c2)],some (a,z),by omega,by go_num,by simp[rowT];have:=hN1.out;omega,(fun h=>by cases h),(fun c h=>by cases h;exact⟨by show 0<=z;omega,by show z<=4294967295;omega⟩),R2,by simp only [rowT];rw[spV_app,List.length_append,show (done ++ [(c1,c2)]).length=N from by simp;exact hN1.out];exact hown3,hb4⟩,by simp[intOf];omega⟩
     ·have R2:Hid (Bur.mk xs=done++Bur.jn (some (c1,max c2 z)) (ys.drop (k+1))):=by
       show _=_
       rw[R.out,hd.out,Bur.jn,if_pos (by simpa using ht)]
      clear R hd hcb
      go_upto_region 7 with fail
      go_cut [30] from 17 to 29 (fun c wy=>c=.bool true /\ ∃ n,wy=U.drewN n)
      case first=>
       clear ownA bA
       go_quiet (fail)
       go_wp2_with fail
       go_meet
       case rel=>exact⟨rfl,_,rfl⟩
      case rest=>
      obtain⟨rfl,n,hw⟩:=hcut
      have hownV:=own_drewN ownA n
      have hbV:=below_drewN bA n
      have y0:(U.drewN n).cell? ⟨Bx,0,none⟩=some (.int .i64 a):=x0
      have y1:(U.drewN n).cell? ⟨Bx,1,none⟩=some (.int .i64 z):=x1
      have hUs2:Bx<(U.drewN n).heap.size:=hUs
      have e2:(U.drewN n).cell? ⟨g,(N - 1)*2+1,none⟩=some (.int .i64 c2):=e1
      rw[<- hw] at hownV hbV y0 y1 hUs2 e2
      clear hw ownA bA x0 x1 hUs e1
      obtain⟨V,hV⟩:∃ V,V=wc:=⟨_,rfl⟩
      subst hV
      have f2:V.frozen? ⟨g,(N - 1)*2+1,none⟩=false:=hownV.frozenAt _
      have hst:=hownV.stored ((N - 1)*2+1) (.int .i64 (max c2 z))
      have hbS:=hbV.setCell (p:=⟨g,(N - 1)*2+1,none⟩) hg0 (.int .i64 (max c2 z))
      have hrow2:Hid ((spV (done ++ [(c1,c2)])).set ((N - 1)*2+1) (.int .i64 (max c2 z))=spV (done ++ [(c1,max c2 z)])):=by show _=_;rw[hgN.out];exact spV_grow done (c1,c2) (max c2 z)
      have hst1:=hst.1
      rw[hrow2.out] at hst1
      have hst2:=hst1.drew
      have hbS2:=hbS.drew
      clear hst hst1 hbS hownV hbV
      go_wp2_with fail
      go_region_with (fail)
      all_goals go_wp2_with fail
      all_goals exact⟨⟨k+1,done,some (c1,max c2 z),by omega,by go_num,by simp[rowT];have:=hN1.out;omega,(fun h=>by cases h),(fun c h=>by cases h;exact⟨by show 0<=max c2 z;omega,by show max c2 z<=4294967295;omega⟩),R2,by simp only [rowT];rw[show (done ++ [(c1,max c2 z)]).length=N from by simp;exact hN1.out];exact hst2,hbS2⟩,by simp[intOf];omega⟩
  ·have R2:Hid (Bur.mk xs=rowT done cur):=by
    show _=_
    rw[R.out,List.drop_eq_nil_of_le (show ys.length<=k by omega)]
    cases cur <;> simp[Bur.jn,rowT]
   rw[<- R2.out] at hown
   have hb2:Below B w wr:=hb.trans (hbw.mono hBw)
   clear R R2 hs hA E
   go_wp2_with fail
   rcases hown.2 with ⟨rfl,h0⟩|⟨g,cp,cur',rfl,_⟩
   ·go_wp2_with fail
    go_ret
    exact⟨none,0,by rw[h0];rfl,fun h=>by omega,hb2⟩
   ·go_wp2_with fail
    go_ret
    exact⟨some ⟨g,0,none⟩,cp,rfl,(spAt_own hown).2,hb2⟩
theorem join (v:Value) (B:Nat) (xs:List Bur.Sp) (w:World) (hown:w.ownsRow B 346 2 v xs.length (spV xs)) (hBw:B<=w.heap.size) (hl:xs.length<=1000) (hA:Bur.InA xs) :
  Calls Tryz.prog 307 #[v] w fun e w'=>∃ (q:Option Addr) (cq:Nat),e=.returned (.slice q (Bur.mk xs).length cq)/\SpAt w' q (Bur.mk xs)/\Below B w w':=by
 rcases hown.2 with ⟨rfl,h0⟩|⟨g,cap,cur,rfl,hBg,hgb,_⟩
 ·have hx:xs=[]:=List.length_eq_zero_iff.1 h0
  subst hx
  have E:Hid (Bur.jn none []=Bur.mk []):=Bur.jn_mk hA (List.Perm.refl _) List.Pairwise.nil
  go_enter Tryz.func307,Tryz.ntmps307
  go_upto_region 1 with fail
  go_cut [7,8] (fun _ _ wy=>wy=w)
  case first=>
   go_wp2_with fail
   refine (sortNone none 0 _ w).mono ?_
   rintro e w1 ⟨rfl,hw⟩
   have hw':=hw.symm
   subst hw'
   go_wp2_with fail
   go_meet
   case rel=>exact rfl
  case rest=>
  subst hcut
  refine ‹∀ (a:Act) (w:World),Code.wp _ _ _ a w->_› _ _ ?_
  exact join2 (ys:=[]) (by simp) (fun _ h=>by cases h) E (SpAt.nil _ _) hBw (Below.refl _ _)
 ·have hg:g<w.heap.size:=(Array.getElem?_eq_some_iff.1 hgb).1
  go_enter Tryz.func307,Tryz.ntmps307
  go_upto_region 1 with fail
  go_cut [7,8] (fun _ _ wy=>∃ ys:List Bur.Sp,ys.Perm xs/\ys.Pairwise (fun s t=>s.1<=t.1)/\SpAt wy (some ⟨g,0,none⟩) ys/\Below B w wy)
  case first=>
   go_wp2_with fail
   refine (sortFn B g cap xs w hown hBg hg hBw hl).mono ?_
   rintro e w1 ⟨rfl,ys,hp,hs,hat,hb⟩
   clear hown
   go_wp2_with fail
   go_meet
   case rel=>exact⟨ys,hp,hs,hat,hb⟩
  case rest=>
  obtain⟨ys,hp,hs,hat,hb⟩:=hcut
  have hlen:xs.length=ys.length:=hp.length_eq.symm
  have E:Hid (Bur.jn none ys=Bur.mk xs):=Bur.jn_mk hA hp hs
  have hA':Bur.InA ys:=fun s h=>hA s (hp.mem_iff.1 h)
  rw[hlen]
  refine ‹∀ (a:Act) (w:World),Code.wp _ _ _ a w->_› _ _ ?_
  exact join2 (by omega) hA' E hat (Nat.le_trans hBw hb.size) hb
end Go.Proofs.YtcjdoeclblhaeaaGreatDoor.Sa
