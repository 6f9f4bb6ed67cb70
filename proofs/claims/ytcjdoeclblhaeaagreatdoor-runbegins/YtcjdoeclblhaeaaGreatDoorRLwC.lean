/- -/
import Derived.RangeFuncNested
import Derived.RangeFuncBound
import Derived.RangeFuncCalls
import Derived.RangeFuncLeaves
import Derived.Shelf.Abstract
import Derived.Shelf.RegionOpen
import Derived.WalkKit
import Derived.OwnWalkIn
import Derived.TacticsInMore
import Derived.LoopNIn
import Derived.LoopIn
import Derived.Test.YtcjdoeclblhaeaaGreatDoorRLgOwn
import Derived.RangeFuncFrom
set_option maxHeartbeats 4000000
set_option maxRecDepth 100000
namespace Go.Proofs.YtcjdoeclblhaeaaGreatDoor
open Go.RowKit Go.Shelf Vs
attribute [local go_sem] Oper.semAt_some
def lenS:Value->Nat
 | .slice _ n _=>n
 | _=>0
def encW (bb off cap:Nat) {b:List UInt8} (x:Pc b):Array Value:=#[.slice (some ⟨bb,off+x.1.1+2,none⟩) (encL x.1.2).length (cap - x.1.1 - 2)]
theorem wholes1 (n lp Bc n₀ bb off cap:Nat) (q:Option Addr) (b t:List UInt8) (ls:List (List Chg)) (hb:Hid (b=frs ls++t)) (ht:Inc t) (hls:∀ l∈ls,chF l=0) (hq:0<b.length->q=some ⟨bb,off,none⟩) (hbb:bb<n₀) (hcap:b.length<=cap) (hcm:cap<=9223372036854775807) (hbl:b.length<=100000) (J Jx:List (Pc b)->World->Prop)
  (hY:∀ pre x W,J pre W->pre.length<ls.length->YieldAt Fence.wide (n - 1) Tryz.prog lp (encW bb off cap x) W fun e W'=>
   (e=.returned (.bool true)/\J (pre ++ [x]) W'/\Below n₀ W W') \/ (e=.returned (.bool false)/\Jx (pre ++ [x]) W'))
  (hD:∀ pre W n,J pre W->J pre (World.drewN W n)) (W:World) (hB:W.cell? ⟨Bc,0,none⟩=some (.slice q b.length cap)) (hC:ByC W bb off b) (hJ0:J [] W) :
  CallsIn Fence.wide n Tryz.prog 194 #[.func (.yield lp) #[] #[],.pointer (some ⟨Bc,0,none⟩)] W fun e W'=>(∃ v,e=.returned v) ∧
   ((∃ ys,pqs ys=ls/\J ys W') \/ (∃ pre,True/\Jx pre W')):=by
 refine callsIn_of_wp Tryz.func194 rfl trivial ?_ rfl
 simp only [Tryz.ntmps194,List.size_toArray,List.length_cons,List.length_nil,Nat.reduceAdd,Nat.reduceSub,Array.replicate_succ,Array.replicate_zero,List.push_toArray,List.append_toArray,List.nil_append,List.cons_append]
 gi_wp2
 gi_loopw [3] (fun p wr=>∃ (pre:List (Pc b)) (rest:List (List Chg)) (a:List UInt8) (k c':Nat) (q':Option Addr),p=.slice q' k c'/\Hid (b=a++(frs rest++t))/\Hid (k=(frs rest++t).length)/\Hid (pqs pre++rest=ls)/\k<=c'/\c'<=9223372036854775807/\k<=100000/\Hid (0<k->q'=some ⟨bb,off+a.length,none⟩/\c'=cap - a.length)/\ByC wr bb off b/\J pre wr)
  (fun p _=>lenS p)
 case atStart=>exact⟨[],ls,[],b.length,cap,q,rfl,by show _=_;rw[List.nil_append];exact hb.out,by show _=_;rw[<- hb.out],rfl,hcap,hcm,hbl,fun h=>⟨hq h,rfl⟩,hC,hJ0⟩
 case round=>
  obtain⟨pre,rest,a,k,c',q',rfl,hA,hK,hP,hk1,hk2,hk3,hQ,hCr,hJr⟩:=hrel
  cases rest with
  | nil=>
   have hK':k=t.length:=by have:=hK.out;simpa [frs] using this
   rcases ht.short with hs|⟨x,y,e0,e1,hs,_⟩
   ·have hlt:(k:Int)<2:=by omega
    have R:Hid (pqs pre=ls):=by show _=_;rw[<- hP.out,List.append_nil]
    clear hK hP hA hQ hY hK'
    gi_wp2
    go_end0
    exact⟨⟨_,rfl⟩,.inl ⟨pre,R.out,hJr⟩⟩
   ·have hk5:2<=k:=by have:=(List.getElem?_eq_some_iff.1 e1).1;omega
    obtain⟨rfl,rfl⟩:=hQ.out (by omega)
    have hbt:b=a++t:=by have:=hA.out;simpa [frs] using this
    have d0:=hCr a.length x (by rw[hbt,List.getElem?_append,if_neg (by omega),Nat.sub_self];exact e0)
    have d1:=hCr (a.length+1) y (by rw[hbt,List.getElem?_append,if_neg (by omega),Nat.add_sub_cancel_left];exact e1)
    rw[<- Nat.add_assoc] at d1
    have x1:=UInt8.toNat_lt x
    have x2:=UInt8.toNat_lt y
    generalize x.toNat=X at d0 hs x1
    generalize y.toNat=Y at d1 hs x2
    have hlt:(k:Int)<2+(X:Int)*256+(Y:Int):=by omega
    have hk2':(2:Int)<=(k:Int):=by omega
    have R:Hid (pqs pre=ls):=by show _=_;rw[<- hP.out,List.append_nil]
    clear hK hP hA hQ hY hK' hbt e0 e1
    gi_wp2
    refine wpIn_wide.2 ?_
    go_quiet (fail)
    gi_wp2
    refine⟨fun _ h=>(by cases h),?_⟩
    gi_wp2
    refine bodyPost_ret (results_none rfl _ _ _) rfl ?_
    exact⟨⟨_,rfl⟩,.inl ⟨pre,R.out,hD _ _ _ hJr⟩⟩
  | cons l r=>
   have hl:chF l=0:=hls l (by rw[<- hP.out];simp)
   obtain⟨h0,h1,h2⟩:=fr_head hl
   have hE:=encL_lt hl
   have hE0:=encL_pos l
   have hke:k=(fr l).length+(frs r++t).length:=by rw[hK.out,frs_cons,List.append_assoc,List.length_append]
   rw[fr_len] at hke
   obtain⟨rfl,rfl⟩:=hQ.out (by omega)
   have d0:=hCr a.length _ (by rw[hA.out,List.getElem?_append,if_neg (by omega),Nat.sub_self,frs_cons,List.append_assoc,List.getElem?_append,if_pos (by rw[fr_len];omega)];exact h0)
   have d1:=hCr (a.length+1) _ (by rw[hA.out,List.getElem?_append,if_neg (by omega),Nat.add_sub_cancel_left,frs_cons,List.append_assoc,List.getElem?_append,if_pos (by rw[fr_len];omega)];exact h1)
   rw[<- Nat.add_assoc] at d1
   have x1:(UInt8.ofNat ((encL l).length / 256)).toNat<256:=UInt8.toNat_lt _
   have x2:(UInt8.ofNat ((encL l).length % 256)).toNat<256:=UInt8.toNat_lt _
   generalize (UInt8.ofNat ((encL l).length / 256)).toNat=X at d0 h2 x1
   generalize (UInt8.ofNat ((encL l).length % 256)).toNat=Y at d1 h2 x2
   have hkE:(encL l).length+2<=k:=by omega
   have hkH:Hid (k=(encL l).length+2+(frs r++t).length):=hke
   have hk2':(2:Int)<=(k:Int):=by omega
   clear hQ hK hls hke
   gi_wp2
   refine wpIn_wide.2 ?_
   go_quiet (fail)
   obtain⟨x,hx1,hx2⟩:∃ x:Pc b,x.1.1=a.length/\x.1.2=l:=⟨⟨(a.length,l),hl,a,frs r++t,by rw[hA.out,frs_cons,List.append_assoc],rfl⟩,rfl,rfl⟩
   obtain⟨fn,tmps,assign,body,hy,hR⟩:=hY pre x (wr.drewN nq) (hD _ _ _ hJr) (by rw[<- hP.out,List.length_append];simp[pqs])
   simp only [encW,hx1,hx2] at hy
   have hCq:ByC (wr.drewN nq) bb off b:=hCr
   have hP2:Hid (pqs (pre ++ [x])++r=ls):=by show _=_;rw[pqs_app,<- hP.out,List.append_assoc,show pqs [x]=[l] from by rw[<- hx2];rfl];rfl
   have hA2:Hid (b=(a++fr l)++(frs r++t)):=by show _=_;rw[hA.out,frs_cons];simp
   have hal:Hid ((a++fr l).length=a.length+((encL l).length+2)):=by show _=_;rw[List.length_append,fr_len]
   obtain⟨E,hEe⟩:∃ E,Hid (E=(encL l).length):=⟨_,rfl⟩
   rw[<- hEe.out] at hy hkE hE hE0 h2 hkH hal
   have eE:(2:Int)+(X:Int)*256+(Y:Int)=((E+2:Nat):Int):=by omega
   rw[eE]
   have hc1:((E+2:Nat):Int)<=(k:Int):=by omega
   clear hY hP hA h0 h1 hx1 hx2 hCr hJr hJ0 hC hB d0 d1 eE h2 x1 x2
   have h2c:2<cap - a.length:=by omega
   by_cases hce:E+2<cap - a.length
   ·gi_wp2
    refine⟨fun h=>by simp[Fence.wide] at h,hR.mono ?_⟩
    rintro e W3 (⟨rfl,hJ3,hk3⟩|⟨rfl,hJx3⟩)
    ·have hC3:ByC W3 bb off b:=hCq.step hbb hk3
     clear hk3 hCq hR hy
     gi_wp2
     go_roundw
     case rel=>exact⟨pre ++ [x],r,a++fr l,k - (E+2),cap - a.length - (E+2),_,rfl,hA2,by show _=_;rw[hkH.out];omega,hP2,by omega,by omega,by omega,fun _=>⟨by rw[hal.out];exact congrArg (fun z=>some (⟨bb,z,none⟩:Addr)) (by omega),by rw[hal.out];omega⟩,hC3,hJ3⟩
     case measure=>simp[lenS];omega
    ·gi_wp2
     refine bodyPost_ret (results_none rfl _ _ _) rfl ?_
     exact⟨⟨_,rfl⟩,.inr ⟨_,trivial,hJx3⟩⟩
   ·have hce':cap - a.length<=E+2:=by omega
    gi_wp2
    refine⟨fun h=>by simp[Fence.wide] at h,hR.mono ?_⟩
    rintro e W3 (⟨rfl,hJ3,hk3⟩|⟨rfl,hJx3⟩)
    ·have hC3:ByC W3 bb off b:=hCq.step hbb hk3
     clear hk3 hCq hR hy
     gi_wp2
     go_roundw
     case rel=>exact⟨pre ++ [x],r,a++fr l,k - (E+2),cap - a.length - (E+2),_,rfl,hA2,by show _=_;rw[hkH.out];omega,hP2,by omega,by omega,by omega,fun h=>by omega,hC3,hJ3⟩
     case measure=>simp[lenS];omega
    ·gi_wp2
     refine bodyPost_ret (results_none rfl _ _ _) rfl ?_
     exact⟨⟨_,rfl⟩,.inr ⟨_,trivial,hJx3⟩⟩
end Go.Proofs.YtcjdoeclblhaeaaGreatDoor
namespace Go.Proofs.YtcjdoeclblhaeaaGreatDoor
open Go.RowKit Go.Shelf Vs
attribute [local go_sem] Oper.semAt_some
theorem wholes (q:Option Addr) (n cap:Nat) (w:World):Calls Tryz.prog 151 #[.slice q n cap] w fun e w'=>e=.returned (.func (.func 194) #[] #[.pointer (some ⟨w.heap.size,0,none⟩)])/\w'=w.alloc (.cells #[.slice q n cap] 30):=by
 go_enter Tryz.func151,Tryz.ntmps151
 go_wp2
 go_ret
 exact⟨rfl,rfl⟩
theorem wholes_seq (m Bc n₀ bb off cap:Nat) (q:Option Addr) (b t:List UInt8) (ls:List (List Chg)) (hb:Hid (b=frs ls++t)) (ht:Inc t) (hls:∀ l∈ls,chF l=0) (hq:0<b.length->q=some ⟨bb,off,none⟩) (hbb:bb<n₀) (hcap:b.length<=cap) (hcm:cap<=9223372036854775807) (hbl:b.length<=100000)
  (w0:World) (hn:n₀ <= w0.heap.size) (hB:w0.cell? ⟨Bc,0,none⟩=some (.slice q b.length cap)) (hC:ByC w0 bb off b) :
  SeqStopsK Fence.wide m Tryz.prog 194 #[.pointer (some ⟨Bc,0,none⟩)] (encW bb off cap (b:=b)) (Below n₀) (fun ys=>pqs ys=ls) (fun _=>True) ls.length w0:=fun l J Jx W hW hJ _ hY h0=>
 wholes1 m l Bc n₀ bb off cap q b t ls hb ht hls hq hbb hcap hcm hbl J Jx hY (fun pre V n h=>hJ pre V _ none h ⟨rfl,rfl,rfl,Nat.le_refl _,fun _ _ _=>rfl⟩ (fun r e=>by cases e)) W ((hW.cell (p:=⟨Bc,0,none⟩) (World.block_lt_of_cell? _ _ hB)).trans hB) (hC.step (Nat.lt_of_lt_of_le hbb hn) hW) h0
theorem wholeLen (bb off cap:Nat) (q:Option Addr) (b t:List UInt8) (ls:List (List Chg)) (hb:Hid (b=frs ls++t)) (ht:Inc t) (hls:∀ l∈ls,chF l=0) (hcap:b.length<=cap) (hcm:cap<=9223372036854775807) (hbl:b.length<=100000) (w:World) (hq:0<b.length->q=some ⟨bb,off,none⟩) (hbb:bb<w.heap.size) (hC:ByC w bb off b) :
  Calls Tryz.prog 150 #[.slice q b.length cap] w fun e w'=>e=.returned (.int .i64 ((frs ls).length:Nat))/\Below w.heap.size w w':=by
 have hN:Hid (ls.length<=100000):=by
  show _<=_
  have:=congrArg List.length hb.out
  rw[List.length_append] at this
  have:=frs_len ls
  omega
 refine (callsIn_wide (n:=9)).1 ?_
 refine callsIn_of_wp_marks Tryz.func150 rfl trivial ?_ rfl
 simp only [Tryz.ntmps150,List.size_toArray,List.length_cons,List.length_nil,Nat.reduceAdd,Nat.reduceSub,Array.replicate_succ,Array.replicate_zero,List.push_toArray,List.append_toArray,List.nil_append,List.cons_append]
 gi_wp2_with (refine⟨trivial,?_⟩;gi_at_call 151;refine (callsIn_wide.2 (wholes _ _ _ _)).mono ?_;rintro e w' ⟨rfl,rfl⟩)
 have hs:=Boxed.new w 3 (.int .i64 0)
 have hb':=Boxed.new (w.alloc (.cells #[.int .i64 0] 3)) 30 (.slice q b.length cap)
 rw[World.size_alloc] at hb'
 have hB0:Below w.heap.size w ((w.alloc (.cells #[.int .i64 0] 3)).alloc (.cells #[.slice q b.length cap] 30)):=((Below.refl _ w).alloc (Nat.le_refl _) _).alloc (by simp) _
 refine wpIn_rangeFunc_ownF rfl (by decide) (gf:=194) (lb:=#[.pointer (some ⟨w.heap.size+1,0,none⟩)]) rfl trivial (enters_of Tryz.func194 (by kernel_rfl) rfl)
  (wholes_seq 8 (w.heap.size+1) w.heap.size bb off cap q b t ls hb ht hls hq hbb hcap hcm hbl _ (by simp;omega) hb'.cell (hC.step hbb hB0)) belowK_t (belowK_b (by simp;omega)) (Below.refl _ _) (fun _=>rfl)
  (fun pre W=>Boxed W w.heap.size 3 (.int .i64 ((frs (pqs pre)).length:Nat))/\Below w.heap.size w W)
  (fun _ _ _=>False)
  (OwnFrom.and (Own.from (boxed_own _ _ (fun pre=>.int .i64 ((frs (pqs pre)).length:Nat))) _) (ownFrom_below (Nat.le_refl _) (by simp;omega)))
  (fun _ _ _ _ _ hs _ _=>hs)
  ⟨hs.alloc _,hB0⟩
  (fun x=>{ tmps:=#[.slice q b.length cap,undef,.int .i64 0,.pointer (some ⟨w.heap.size,0,none⟩),.slice (some ⟨bb,off+x.1.1+2,none⟩) (encL x.1.2).length (cap - x.1.1 - 2),.slice q b.length cap,.func (.func 194) #[] #[.pointer (some ⟨w.heap.size+1,0,none⟩)],.slice (some ⟨bb,off+x.1.1+2,none⟩) (encL x.1.2).length (cap - x.1.1 - 2),undef,undef,undef,undef,undef,undef],defers:=[] }) ?assign ?body ?done ?stop
 case assign=>
  intro l x W K hK
  simp only [encW]
  gi_wp2
  exact hK
 case body=>
  rintro l pre x W ⟨hbx,hB⟩ hlt
  have h1:=frs_le (pqs_ok pre)
  have h2:(pqs pre).length=pre.length:=by simp[pqs]
  have h3:=hN.out
  have h4:=encL_lt x.2.1
  obtain⟨M,hM⟩:∃ M,Hid (M=(frs (pqs pre)).length):=⟨_,rfl⟩
  have hM2:Hid ((frs (pqs (pre ++ [x]))).length=M+(2+(encL x.1.2).length)):=by
   show _=_
   rw[pqs_app,frs_app,List.length_append,hM.out,show pqs [x]=[x.1.2] from rfl,frs_one,fr_len];omega
  rw[<- hM.out] at hbx h1
  have hc:=hbx.cell
  have hf:=hbx.frozen
  have hM3:M<=100300000:=by omega
  generalize (encL x.1.2).length=E at hM2 h4
  clear h1 h2 h3 hlt hM
  gi_wp2
  exact⟨KeepsOthers.setCell _ _ _,(Below.refl w.heap.size W).setCell (p:=⟨w.heap.size,0,none⟩) (Nat.le_refl _) _,by rw[hM2.out];exact hbx.set _,hB.setCell (p:=⟨w.heap.size,0,none⟩) (Nat.le_refl _) _⟩
 case done=>
  rintro D ys W hD hys ⟨hbx,hB⟩ hK
  rw[hys] at hbx
  have hc:=hbx.cell
  gi_wp2
  refine⟨by simp,.inl ⟨_,_,rfl,run_takeDeferred hK,?_⟩⟩
  exact⟨_,results_tmp rfl _ _ _,rfl,hB.trans (belowK_b (w:=w) (Nat.le_refl _) W D _ _ (by simp at hD;omega) hK rfl rfl)⟩
 case stop=>
  rintro D c pre W _ _ h _
  exact h.elim
theorem crN_le (g:Lg) (keep:Int) (h:g.safe<=g.by.length):crN g keep<=g.by.length:=by
 unfold crN
 by_cases c:0<keep
 ·rw[if_pos c]
  by_cases c2:keep<(g.by.length:Int) - g.safe
  ·rw[if_pos c2];omega
  ·rw[if_neg c2];exact Nat.le_refl _
 ·rw[if_neg c];exact h
theorem crN_eq (g:Lg) (keep:Int):(crN g keep:Int)=g.safe+min (max keep 0) ((g.by.length:Int) - g.safe) \/ ¬ g.safe<=g.by.length:=by
 by_cases h:g.safe<=g.by.length
 ·left
  unfold crN
  by_cases c:0<keep
  ·rw[if_pos c]
   by_cases c2:keep<(g.by.length:Int) - g.safe
   ·rw[if_pos c2];omega
   ·rw[if_neg c2];omega
  ·rw[if_neg c];omega
 ·exact .inr h
theorem lw_blk {p:Option Addr} {n m c:Nat}:(Value.slice p n c).ownBlock=(Value.slice p m c).ownBlock:=by cases p <;> rfl
theorem lw_byC {w:World} {g0 n c:Nat} {bs:List UInt8} (h:w.ownsRow 0 5 1 (.slice (some ⟨g0,0,none⟩) n c) bs.length (byV bs)) (k:Nat):ByC w g0 0 (bs.take k):=by
 intro i x hx
 rw[List.getElem?_take] at hx
 split at hx
 ·have hi:=(List.getElem?_eq_some_iff.1 hx).1
  rw[Nat.zero_add]
  have hs:n=bs.length:=by
   rcases h.2 with ⟨h0,_⟩|⟨g',cap',cur,h0,_⟩
   ·cases h0
   ·cases h0;rfl
  subst hs
  rw[h.cellAt i (by omega)]
  simp[byV,hx]
 ·cases hx
theorem lgCrash {w:World} {F:Nat->Prop} {B:Nat} {g:Lg} (keep:Int) (hk0 : -9223372036854775808<=keep) (hk1:keep<=9223372036854775807) (h:LT w F B g) (ok:OkL g) :
  Calls Tryz.prog 107 #[.pointer (some ⟨B,0,none⟩),.int .i64 keep] w fun e w'=>e=.returned (.tuple #[])/\LT w' (Nw F w w') B (crG g keep)/\But F w w':=by
 obtain⟨v,wh,hw,hx⟩:=h
 obtain⟨p3,c3,rfl,hc3,hc3',hp3⟩:=lw_form hx.row
 have hfw:=ok.few
 have hsb:g.safe<=g.by.length:=by have:=ok.safe;omega
 have hN:=(crN_eq g keep).resolve_right (fun h=>h hsb)
 have hNl:=crN_le g keep hsb
 obtain⟨t',et,hinc⟩:=cut_fit (crN g keep) g.ls g.tl ok.each ok.inc
 have hok:∀ l∈fitL (crN g keep) g.ls,chF l=0:=fun l hl=>by
  obtain⟨k,_,h2,_⟩:=fitL_take (crN g keep) g.ls
  rw[h2] at hl
  exact ok.each l (List.mem_of_mem_take hl)
 unfold crG
 generalize crN g keep=N at hN hNl et hok
 have hby1:=hfw.2.1
 have etH:Hid (g.by.take N=frs (fitL N g.ls)++t'):=et
 have hlt:(g.by.take N).length=N:=by rw[List.length_take];omega
 have hEN:(frs (fitL N g.ls)).length<=N:=by have:=congrArg List.length etH.out;rw[hlt,List.length_append] at this;omega
 obtain⟨E,hE⟩:∃ E,Hid (E=(frs (fitL N g.ls)).length):=⟨_,rfl⟩
 have hrow2:Hid (g.by.take E=frs (fitL N g.ls)):=by
  show _=_
  have:=congrArg (List.take E) etH.out
  rw[List.take_take,Nat.min_eq_left (by rw[hE.out];exact hEN),hE.out,List.take_left] at this
  rw[hE.out];exact this
 obtain⟨bb,hbb,hq,hC⟩:∃ bb,bb<w.heap.size/\(0<(g.by.take N).length->p3=some ⟨bb,0,none⟩)/\ByC w bb 0 (g.by.take N):=by
  by_cases h0:0<g.by.length
  ·obtain⟨g0,rfl⟩:=hp3 h0
   exact⟨g0,(lw_lt hx.row rfl).2,fun _=>rfl,lw_byC hx.row N⟩
  ·have e:g.by=[]:=List.eq_nil_of_length_eq_zero (by omega)
   refine⟨B,hx.lt,fun h=>?_,fun i x hi=>?_⟩
   ·rw[e] at h;simp at h
   ·rw[e] at hi;simp at hi
 have K:∀ W,Below w.heap.size w W->Calls Tryz.prog 150 #[.slice p3 N c3] W fun e w'=>e=.returned (.int .i64 (E:Nat))/\Below W.heap.size W w':=fun W hW=>by
  have:=wholeLen bb 0 c3 p3 (g.by.take N) t' (fitL N g.ls) etH hinc hok (by omega) hc3' (by omega) W hq (Nat.lt_of_lt_of_le hbb hW.size) (hC.step hbb hW)
  rw[hlt,<- hE.out] at this
  exact this
 rw[<- hE.out] at hEN
 rw[<- hE.out]
 have fB:=hx.fB
 have d3:=hx.c3
 have d4:=hx.c4
 have hwr:(g.by.length:Int) - g.safe<=100000:=by omega
 have hwr0:0<=(g.by.length:Int) - g.safe:=by omega
 have hN2:Hid ((N:Int)=g.safe+min (max keep 0) ((g.by.length:Int) - g.safe)):=hN
 have hNc:(N:Int)<=(c3:Int):=by omega
 have hEc:(E:Int)<=(c3:Int):=by omega
 clear et hok hinc hq hC hlt hN ok hfw
 go_enter Tryz.func107,Tryz.ntmps107
 go_wp2
 go_quiet (fail)
 obtain⟨n1,hn1⟩:∃ n1,n1=nq:=⟨_,rfl⟩
 rw[<- hn1]
 clear hn1 nq
 have d3':(w.drewN n1).cell? ⟨B,3,none⟩=some (.slice p3 g.by.length c3):=d3
 have d4':(w.drewN n1).cell? ⟨B,4,none⟩=some (.int .i64 g.safe):=d4
 go_wp2
 go_quiet (fail)
 have eN:(g.safe:Int)+(if (g.by.length:Int) - g.safe<(if keep<0 then 0 else keep) then (g.by.length:Int) - g.safe else (if keep<0 then 0 else keep))=(N:Int):=by
  have:=hN2.out
  by_cases c:keep<0
  ·rw[if_pos c]
   by_cases c2:(g.by.length:Int) - g.safe<0
   ·omega
   ·rw[if_neg c2];omega
  ·rw[if_neg c]
   by_cases c2:(g.by.length:Int) - g.safe<keep
   ·rw[if_pos c2];omega
   ·rw[if_neg c2];omega
 rw[eN,Int.toNat_natCast]
 have hbq:Below w.heap.size w ((w.drewN n1).drewN nq):=below_drewN (below_drewN (below_self w) n1) nq
 generalize (w.drewN n1).drewN nq=V at hbq
 have hBlt:=hx.lt
 clear d3 d4 d3' d4' eN hwr hwr0 hk0 hk1
 go_wp2_with (first
  | (go_at_call 150;refine (K _ hbq).mono ?_;clear K;rintro e w2 ⟨rfl,hb2⟩;have hbw:=below_via hbq hb2;have x2:=hx.step hbw;have k3:=x2.c3;have fk3:=x2.fz 3 (by decide);have k4:=x2.c4;have fk4:=x2.fz 4 (by decide);have row3:w2.ownsRow 0 5 1 (.slice p3 E c3) (frs (fitL N g.ls)).length (byV (frs (fitL N g.ls))):=(by have:=own_trunc x2.row (show E<=g.by.length by omega);rw[<- hrow2.out,show byV (g.by.take E)=(byV g.by).take (E*1) from (by simp[byV,List.map_take]),show (g.by.take E).length=E from (by rw[List.length_take];omega)];exact this);have x3:=(x2.set3 (u:=.slice p3 E c3) row3 (fun j hj=>x2.sep j (lw_blk.trans hj))).set4 (E:Nat))
  | (go_at_call 28;refine (restore x3).mono ?_;rintro e w4 ⟨rfl,x4,hb4,hs4⟩))
 all_goals go_end0
 all_goals refine⟨rfl,⟨.slice p3 E c3,-1,Wh.never,?_⟩,(((But.below hbw).setCell (p:=⟨B,3,none⟩) (.inl fB) _).setCell (p:=⟨B,4,none⟩) (.inl fB) _).then hb4 (fun i _ e=>by rw[e];exact fB)⟩
 all_goals show LX _ _ _ false _ _ _ _ (frs (fitL N g.ls) ++ [])
 all_goals (rw[List.append_nil];exact x4.mono (fun j _ hj=>.inl hj))
end Go.Proofs.YtcjdoeclblhaeaaGreatDoor
