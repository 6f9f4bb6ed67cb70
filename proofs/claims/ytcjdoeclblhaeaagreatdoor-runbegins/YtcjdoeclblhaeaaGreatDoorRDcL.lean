/- -/
import Derived.RangeFuncNested
import Derived.RangeFuncBound
import Derived.RangeFuncCalls
import Derived.RangeFuncLeaves
import Derived.RangeFuncMany
import Derived.Shelf.Abstract
import Derived.Shelf.AbstractIn
import Derived.Shelf.RegionOpen
import Derived.Sort.MapsRangeIn
import Derived.WalkKit
import Derived.OwnWalkIn
import Derived.TacticsInMore
import Derived.RegionIn
import Derived.LoopNIn
import Derived.LoopIn
import Derived.Maps.AppendAt
import Derived.Test.YtcjdoeclblhaeaaGreatDoorRDcG
import Derived.Test.YtcjdoeclblhaeaaGreatDoorRDcShelf
import Derived.Test.YtcjdoeclblhaeaaGreatDoorRAppOne
import Derived.Test.YtcjdoeclblhaeaaGreatDoorRDcA
import Derived.Test.YtcjdoeclblhaeaaGreatDoorRVsMath
set_option maxHeartbeats 4000000
set_option maxRecDepth 100000
namespace Vs
structure Com (own:List Chg) (left:ByteArray->Bool) (xs:List Chg):Prop where
 mem:∀ c,c∈xs↔c∈own/\left c.k=false
 once:xs.Pairwise (fun a b=>a.k≠b.k)
theorem Com.start {own:List Chg} {left:ByteArray->Bool} (h:∀ c∈own,left c.k=true):Com own left []:=
 ⟨fun c=>⟨fun g=>by simp at g,fun g=>by rw[h c g.1] at g;cases g.2⟩,.nil⟩
theorem Com.len {own:List Chg} {left:ByteArray->Bool} {xs:List Chg} (h:Com own left xs):xs.length<=own.length:=by
 have:=nodup_le (ks:=xs.map (·.k)) (ms:=own.map (·.k)) (List.pairwise_map.2 h.once) (fun x hx=>by
  obtain⟨c,hc,rfl⟩:=List.mem_map.1 hx
  exact List.mem_map.2 ⟨c,((h.mem c).1 hc).1,rfl⟩)
 simpa using this
theorem Com.more {own:List Chg} (hr:risC own) {left left':ByteArray->Bool} {xs:List Chg} (h:Com own left xs) {x:Chg} (hx:x∈own) (hs:left x.k=true) (hl:∀ t,left' t=(left t && !decide (t=x.k))):Com own left' (xs ++ [x]):=by
 have hno:∀ c∈xs,c.k≠x.k:=fun c hc e=>by
  have:=((h.mem c).1 hc).2
  rw[e,hs] at this;cases this
 refine⟨fun c=>?_,List.pairwise_append.2 ⟨h.once,List.pairwise_singleton _ _,fun a ha b hb=>by rw[List.mem_singleton.1 hb];exact hno a ha⟩⟩
 rw[List.mem_append,h.mem c,hl,List.mem_singleton]
 constructor
 ·rintro (⟨g1,g2⟩|rfl)
  ·exact⟨g1,by rw[g2];rfl⟩
  ·exact⟨hx,by simp⟩
 ·rintro ⟨g1,g2⟩
  by_cases e:c.k=x.k
  ·exact .inr (ris_once hr g1 hx e)
  ·exact .inl ⟨g1,by simpa [e] using g2⟩
theorem Com.lt {own:List Chg} (hr:risC own) {left:ByteArray->Bool} {xs:List Chg} (h:Com own left xs) {x:Chg} (hx:x∈own) (hs:left x.k=true):xs.length<own.length:=by
 have:=(h.more hr (left':=fun t=>left t && !decide (t=x.k)) hx hs (fun _=>rfl)).len
 rw[List.length_append] at this
 simp at this;omega
theorem ris_uniq:∀ {r s:List Chg},risC r->risC s->(∀ p,p∈r↔p∈s)->r=s
 | [],[],_,_,_=>rfl
 | [],y :: s,_,_,h=>by have:=(h y).2 (by simp);simp at this
 | x :: r,[],_,_,h=>by have:=(h x).1 (by simp);simp at this
 | x :: r,y :: s,h1,h2,h=>by
  obtain⟨a1,a2⟩:=List.pairwise_cons.1 h1
  obtain⟨b1,b2⟩:=List.pairwise_cons.1 h2
  have hxy:x=y:=by
   rcases List.mem_cons.1 ((h x).1 (by simp)) with e|e
   ·exact e
   ·rcases List.mem_cons.1 ((h y).2 (by simp)) with e2|e2
    ·exact e2.symm
    ·have:=bl_trans (b1 x e) (a1 y e2)
     rw[bl_irr] at this;cases this
  subst hxy
  congr 1
  refine ris_uniq a2 b2 (fun p=>?_)
  constructor
  ·intro hp
   rcases List.mem_cons.1 ((h p).1 (by simp[hp])) with e|e
   ·subst e;have:=a1 p hp;rw[bl_irr] at this;cases this
   ·exact e
  ·intro hp
   rcases List.mem_cons.1 ((h p).2 (by simp[hp])) with e|e
   ·subst e;have:=b1 p hp;rw[bl_irr] at this;cases this
   ·exact e
theorem Com.all {own:List Chg} (hr:risC own) {left:ByteArray->Bool} {xs ys:List Chg} (h:Com own left xs) (hl:∀ t,left t=false) (hp:ys.Perm xs) (hs:ys.Pairwise (fun p q=>bl q.k p.k=false)):ys=own:=by
 have hk2:ys.Pairwise (fun p q=>p.k≠q.k):=(hp.pairwise_iff (fun {_ _} h=>Ne.symm h)).2 h.once
 refine ris_uniq ((hs.and hk2).imp (fun {p q} h=>?_)) hr (fun c=>by rw[hp.mem_iff,h.mem c,hl];simp)
 cases e:bl p.k q.k
 ·exact absurd (bl_tri e h.1) h.2
 ·rfl
end Vs
namespace Go.Proofs.YtcjdoeclblhaeaaGreatDoor
open Go.RowKit Go.Maps Go.Sort Go.Shelf Vs
attribute [local go_sem] Oper.semAt_some
theorem dkVals1 (n l Bm b:Nat) (hn:1<=n) (D:DataW Value) (own:List Chg) (hO:OwnR D own) (hr:risC own) (J Jx:List Chg->World->Prop)
  (hY:∀ pre x W,J pre W->pre.length<own.length->YieldAt Fence.wide (n - 1) Tryz.prog l #[chM x] W fun e W'=>
   (e=.returned (.bool true)/\J (pre ++ [x]) W'/\KeepsWalks W W') \/ (e=.returned (.bool false)/\Jx (pre ++ [x]) W'))
  (W:World) (hJ:AbidesFrom W.heap.size J) (hm:W.cell? ⟨Bm,0,none⟩=some (.map (some b))) (hown:W.ownsMap Tryz.prog 9 anyE b own.length D) (h0:J [] W) :
  CallsIn Fence.wide n Tryz.prog 190 #[.func (.yield l) #[] #[],.pointer (some ⟨Bm,0,none⟩)] W fun e W'=>(∃ v,e=.returned v) ∧
   ((∃ xs,(∃ left,Com own left xs /\ ∀ t,left t=false)/\J xs W') \/ (∃ pre,True/\Jx pre W')):=by
 have hlk0:=fun k=>(look_at hown (kS k) undef).2
 refine callsIn_of_wp Tryz.func190 rfl trivial ?_ rfl
 simp only [Tryz.ntmps190,List.size_toArray,List.length_cons,List.length_nil,Nat.reduceAdd,Nat.reduceSub,Array.replicate_succ,Array.replicate_zero,List.push_toArray,List.append_toArray,List.nil_append,List.cons_append]
 gi_wp2_with (first
  | (gi_at_range;refine wpListIn_range_own _ rfl _ 173 rfl 9 215 keyed Tryz.underlying173 anyE b own.length D rfl hown ?_;intro w0 hrg0 hg0 hs0)
  | gi_in)
 go_frame
 have hstart:Hid (Com own (fun k=>Maps.has D (kS k)) []):=Com.start (fun c hc=>by rw[hlk0,hO c.k,ownC_is hr hc];rfl)
 gi_loopw [4] (fun _ wr=>∃ (left:Lit->Bool) (cnt:Nat) (xs:List Chg),wr.ranges Tryz.prog 9 anyE b W.heap.size own.length D left cnt/\Hid (Com own (fun k=>left (kS k)) xs)/\J xs wr)
  (fun _ wr=>wr.rangeLeft b W.heap.size)
 case atStart=>
  exact⟨_,_,[],hrg0,hstart,hJ [] W w0 none h0 hg0 (fun r e=>by cases e)⟩
 case round=>
  obtain⟨left,cnt,xs,hrg,hC,hJs⟩:=hrel
  gi_wp2_with (first
   | (gi_at_next;refine wpListIn_next_ranges _ rfl _ rfl 9 keyed anyE Value.string id (fun key kl hk=>by obtain⟨x,_,_,hx⟩:=Maps.keyOf_str Tryz.underlying9 hk;exact⟨_,by assumption⟩) (fun v y _=>⟨v,rfl⟩) b W.heap.size own.length D left cnt rfl hrg ?_ ?_)
   | gi_in)
  ·intro hc0 hl0
   clear hstart
   gi_wp2
   go_end0
   exact⟨⟨_,rfl⟩,.inl ⟨xs,⟨_,hC.out,fun t=>hl0 _⟩,hJs⟩⟩
  ·intro k v kl yd yp w2 cnt2 hkey hlk hv hat hrg2 hlt hg2 hs2 hen
   have e1:kl=kS k:=by
    simp[keyOf,Tryz.underlying9,mapKey] at hkey
    exact hkey.2.symm
   subst e1
   have hyv:yd=.held v:=by
    have:anyE v=some (yd,yp):=hv
    simp[anyE] at this
    rw[<- this.1]
   have hlook:look D (kS k)=some v:=by
    have ha:=hat (.held undef)
    have hh:Maps.has D (kS k)=true:=Maps.has_true_of_atKey (y:=yd) hat
    unfold look
    rw[if_pos hh,ha,hyv]
   obtain⟨x,hx,rfl⟩:=hO.found hlook
   obtain⟨xm,xk⟩:=ownC_some hx
   have hC2:Hid (Com own (fun k'=>(fun z=>left z && !z.sameKey (kS k)) (kS k')) (xs ++ [x])):=hC.out.more hr xm (by rw[xk];exact hlk) (fun t=>by
    show (left (kS t) && !(kS t).sameKey (kS k))=_
    rw[sameS,xk])
   have hlt2:=hC.out.lt hr xm (by rw[xk];exact hlk)
   have hJ2:J xs w2:=hJ _ wr w2 (some W.heap.size) hJs hg2 (fun r e=>by cases e;exact⟨Nat.le_refl _,hrg.iter_walk⟩)
   have hJ3:J xs (w2.alloc (.cells #[.string x.k,.string x.v,.bool x.g] 215)):=hJ _ w2 _ none hJ2 (World.grownBy_alloc _ _ _) (fun r e=>by cases e)
   obtain⟨fn,tmps,assign,body,hy,hR⟩:=hY xs x _ hJ3 hlt2
   clear hs2 hC hstart hlook hx xk hkey hv hat hyv
   gi_wp2
   refine hR.mono ?_
   rintro e W3 (⟨rfl,hJ4,hk3⟩|⟨rfl,hJx3⟩)
   ·gi_wp2
    have hrg3:=(hrg2.alloc (.cells #[.string x.k,.string x.v,.bool x.g] 215)).of_walks hk3
    go_roundw
    case rel=>exact⟨_,cnt2,xs ++ [x],hrg3,hC2,hJ4⟩
    case measure=>rw[hrg3.left_eq,hrg.left_eq];exact hlt
   ·gi_wp2
    refine bodyPost_ret (results_none rfl _ _ _) rfl ?_
    exact⟨⟨_,rfl⟩,.inr ⟨_,trivial,hJx3⟩⟩
theorem dkVals (mb:Option Nat) (w:World):Calls Tryz.prog 144 #[.map mb] w fun e w'=>e=.returned (.func (.func 190) #[] #[.pointer (some ⟨w.heap.size,0,none⟩)])/\w'=w.alloc (.cells #[.map mb] 173):=by
 go_enter Tryz.func144,Tryz.ntmps144
 go_wp2
 go_ret
 exact⟨rfl,rfl⟩
theorem dkValsSeq (n:Nat) (hn:1<=n) (Bm b:Nat) (D:DataW Value) (own:List Chg) (hO:OwnR D own) (hr:risC own) (w:World) (hBm:Bm<w.heap.size) (hm:w.cell? ⟨Bm,0,none⟩=some (.map (some b))) (hown:w.ownsMap Tryz.prog 9 anyE b own.length D) :
  SeqStopsK Fence.wide n Tryz.prog 190 #[.pointer (some ⟨Bm,0,none⟩)] (fun x:Chg=>#[chM x]) KeepsWalks (fun xs=>∃ left,Com own left xs /\ ∀ t,left t=false) (fun _=>True) own.length w:=fun l J Jx W hW hJ _ hY h0=>
 dkVals1 n l Bm b hn D own hO hr J Jx hY W hJ ((hW.cell (p:=⟨Bm,0,none⟩) hBm).trans hm) (map_but (F:=fun _=>False) hown (.below hW) id) h0
theorem keeps_walks {W W':World} (h:KeepsOthers W W'):KeepsWalks W W':=⟨h.size,fun k o hk hw=>h.same k o hk (Obj.not_cells_of_walk hw)⟩
theorem dkAppendSeq (b Bm:Nat) (D:DataW Value) (own:List Chg) (hO:OwnR D own) (hr:risC own) (hl:own.length<=20) (w:World) (hBm:Bm<w.heap.size) (hm:w.cell? ⟨Bm,0,none⟩=some (.map (some b))) (hown:w.ownsMap Tryz.prog 9 anyE b own.length D) :
  Calls Tryz.prog 235 #[.slice none 0 0,.func (.func 190) #[] #[.pointer (some ⟨Bm,0,none⟩)]] w fun e w'=>∃ (v:Value) (xs:List Chg) (left:ByteArray->Bool),e=.returned v/\(Com own left xs /\ ∀ t,left t=false)/\w'.ownsRow w.heap.size 215 3 v xs.length (chV xs)/\Below w.heap.size w w':=by
 obtain⟨i0,hin,hz0,hz1,hz2⟩:=info_parts infoChg
 refine (callsIn_wide (n:=9)).1 ?_
 refine callsIn_of_wp_marks Tryz.func235 rfl trivial ?_ rfl
 simp only [Tryz.ntmps235,List.size_toArray,List.length_cons,List.length_nil,Nat.reduceAdd,Nat.reduceSub,Array.replicate_succ,Array.replicate_zero,List.push_toArray,List.append_toArray,List.nil_append,List.cons_append]
 gi_wp2
 have hs:=Boxed.new w 176 (.slice none 0 0)
 have hB0:Below w.heap.size w (w.alloc (.cells #[.slice none 0 0] 176)):=(Below.refl _ w).alloc (Nat.le_refl _) _
 refine wpIn_rangeFunc_ownH rfl (by decide) (gf:=190) (lb:=#[.pointer (some ⟨Bm,0,none⟩)]) rfl trivial (enters_of Tryz.func190 (by kernel_rfl) rfl)
  (dkValsSeq 8 (by decide) Bm b D own hO hr _ (by simp;omega) ((hB0.cell (p:=⟨Bm,0,none⟩) hBm).trans hm) (hown.alloc _)) walksK_t (walksK_b (w:=w.alloc (.cells #[.slice none 0 0] 176))) (Below.refl _ _) (fun _=>rfl)
  (fun pre W=>(∃ v,Boxed W w.heap.size 176 v/\W.ownsRow w.heap.size 215 3 v pre.length (chV pre)/\True)/\Below w.heap.size w W)
  (fun _ _ _=>False)
  (OwnFrom.and (Own.from (holdsRow_own w.heap.size w.heap.size 176 215 3 (fun pre:List Chg=>pre.length) (fun pre=>chV pre) (fun _ _=>True)) _) (ownFrom_below (Nat.le_refl _) (by simp)))
  (fun _ _ _ _ _ hs _ _=>hs)
  ⟨⟨_,hs,World.ownsRow_nil _ _ _ _,trivial⟩,hB0⟩
  (fun x a' W=>∃ Bx,w.heap.size<Bx/\W.cell? ⟨Bx,0,none⟩=some (.string x.k)/\W.cell? ⟨Bx,1,none⟩=some (.string x.v)/\W.cell? ⟨Bx,2,none⟩=some (.bool x.g)/\a'={ tmps:=#[.slice none 0 0,.func (.func 190) #[] #[.pointer (some ⟨Bm,0,none⟩)],.pointer (some ⟨w.heap.size,0,none⟩),undef,.slice none 0 0,.pointer (some ⟨Bx,0,none⟩),.func (.func 190) #[] #[.pointer (some ⟨Bm,0,none⟩)],chM x,undef,undef,undef,undef,undef],defers:=[] })
  (fun x a' _ X Y row hs hg hr=>by obtain⟨Bx,h1,h2,h3,h4,h5⟩:=hs;exact⟨Bx,h1,cell_kept h2 hg (fun r e=>(hr r e).2),cell_kept h3 hg (fun r e=>(hr r e).2),cell_kept h4 hg (fun r e=>(hr r e).2),h5⟩)
  ?assign ?body ?done ?stop
 case assign=>
  rintro l pre x W K ⟨⟨v,hbx,hrow,-⟩,hB1⟩ hK
  gi_wp2
  exact hK _ _ ((KeepsOthers.alloc _ _).from _) (keeps_walks (KeepsOthers.alloc _ _)) ⟨⟨v,hbx.alloc _,hrow.alloc _,trivial⟩,hB1.alloc hB1.size _⟩ ⟨W.heap.size,hbx.lt,by simp,by simp,by simp,rfl⟩
 case body=>
  rintro l pre x a' W hl' ⟨r,hr'⟩ ⟨⟨v,hbx,hrow,-⟩,hB1⟩ ⟨Bx,hBx,b0,b1,b2,rfl⟩ hlt
  obtain⟨pv,cv,rfl,-⟩:=lw_form hrow
  have hszw:=hB1.size
  have hc:=hbx.cell
  gi_wp2_with (gi_at_builtin;refine wpListIn_append_own _ rfl _ _ 176 rfl w.heap.size 215 i0 _ 3 40 Tryz.underlying176 hin hz0 hz1 hz2 rfl (by decide) _ _ _ rfl (hrow.alloc _) ⟨W.heap.size,0,none⟩ 1 1 (chV [x]) rfl rfl (fun j u hj=>by rw[show (⟨W.heap.size,0,none⟩:Addr).add j=⟨W.heap.size,j,none⟩ from by unfold Addr.add;split <;> simp_all];exact three_new _ _ _ _ _ _ rfl j u hj) (chV_one _) (by unfold maxLen;omega) (by omega) (by simp;omega) ?_;intro v' w1' hown' hgrow _;obtain⟨g',cap',rfl⟩:=ownsRow_succ hown';obtain⟨hv1,hv2,hr2,hk2,hb3⟩:=hbx.appended (by decide) hrow hszw (Nat.le_refl _) hown' hgrow;have hc1:=hv1.cell;have hf1:=hv1.frozen)
  refine⟨hk2.from _,keeps_walks hk2,⟨_,hv2,?_,trivial⟩,hB1.trans hb3⟩
  rw[chV_app,List.length_append]
  exact hr2
 case done=>
  rintro Dd ys W hD ⟨left,hys,hall⟩ ⟨⟨v,hbx,hrow,-⟩,hB⟩ hK
  obtain⟨pv,cv,rfl,-⟩:=lw_form hrow
  have hc:=hbx.cell
  gi_wp2
  refine⟨by simp,.inl ⟨_,_,rfl,run_takeDeferred hK,?_⟩⟩
  exact⟨_,results_tmp rfl _ _ _,_,ys,left,rfl,⟨hys,hall⟩,ownsRow_putObj hrow _ hK rfl,hB.trans (belowK_b (w:=w) (Nat.le_refl _) W Dd _ _ (by simp at hD;omega) hK rfl rfl)⟩
 case stop=>
  rintro Dd c pre W _ _ h _
  exact h.elim
theorem dkCollect (b Bm:Nat) (D:DataW Value) (own:List Chg) (hO:OwnR D own) (hr:risC own) (hl:own.length<=20) (w:World) (hBm:Bm<w.heap.size) (hm:w.cell? ⟨Bm,0,none⟩=some (.map (some b))) (hown:w.ownsMap Tryz.prog 9 anyE b own.length D) :
  Calls Tryz.prog 188 #[.func (.func 190) #[] #[.pointer (some ⟨Bm,0,none⟩)]] w fun e w'=>∃ (v:Value) (xs:List Chg) (left:ByteArray->Bool),e=.returned v/\(Com own left xs /\ ∀ t,left t=false)/\w'.ownsRow w.heap.size 215 3 v xs.length (chV xs)/\Below w.heap.size w w':=by
 have K:=dkAppendSeq b Bm D own hO hr hl w hBm hm hown
 go_enter Tryz.func188,Tryz.ntmps188
 go_wp2_with (go_at_call 235;refine K.mono ?_;rintro e w2 ⟨v,xs,left,rfl,hC,hrow,hb⟩)
 go_ret
 exact⟨v,xs,left,rfl,hC,hrow,hb⟩
def encCh (x:Chg):List Value:=[.string x.k,.string x.v,.bool x.g]
abbrev cfC (x y:Chg):Int:=cmS x.k y.k
theorem ltC (x y:Chg):ltOf cfC x y=bl x.k y.k:=by
 unfold ltOf cfC cmS
 cases h1:bl x.k y.k
 ·cases h2:bl y.k x.k <;> simp
 ·simp
theorem swoC:SWO (ltOf cfC) where
 irrefl x:=by rw[ltC];exact bl_irr _
 trans x y z h1 h2:=by rw[ltC] at *;exact bl_trans h1 h2
 ntrans x y z h1 h2:=by
  rw[ltC] at *
  cases h:bl x.k z.k
  ·rfl
  ·cases h3:bl y.k x.k
   ·rw[bl_tri h1 h3] at h;rw[h] at h2;cases h2
   ·have:=bl_trans h3 h;rw[this] at h2;cases h2
theorem closureC (x y:Chg) (W:World):Calls Tryz.prog 145 #[.agg #[.string x.k,.string x.v,.bool x.g],.agg #[.string y.k,.string y.v,.bool y.g]] W fun e w'=>e=.returned (.int .i64 (cmS x.k y.k)) /\ ∃ q os',w'=grow (W.drewN q) os':=by
 have hcon:=fun W'=>compareS x.k y.k W'
 generalize cmS x.k y.k=r at hcon ⊢
 go_enter Tryz.func145,Tryz.ntmps145
 go_wp2_with (go_at_call 135;refine (hcon _).mono ?_;rintro e w' ⟨rfl,rfl⟩)
 go_ret
 exact⟨rfl,0,_,by rw[alloc_eq_grow,alloc_eq_grow,grow_grow];rfl⟩
theorem holds_chV {w:World} {B g cap e:Nat} {xs:List Chg} [Inhabited Chg] (h:w.ownsRow B e 3 (.slice (some ⟨g,0,none⟩) xs.length cap) xs.length (chV xs)):HoldsK encCh 3 w g 0 xs.toArray:=by
 intro j hj
 rw[size_flatK] at hj
 have hj':j<xs.length*3:=by simpa using hj
 rw[get_flatK _ _ _ _ hj]
 have hi:j / 3<xs.length:=by omega
 have hx:xs.toArray[j / 3]! = xs[j / 3]:=by simp[hi]
 have hv:=chV_at xs (j / 3) xs[j / 3] (List.getElem?_eq_getElem hi)
 rw[hx,Nat.zero_add,h.cellAt j (by omega)]
 refine⟨?_,h.frozenAt _⟩
 rcases (show j % 3=0 \/ j % 3=1 \/ j % 3=2 by omega) with e|e|e
 ·have ej:j=j / 3*3:=by omega
  rw[e]
  conv=>lhs;rw[ej]
  rw[hv.1];rfl
 ·have ej:j=j / 3*3+1:=by omega
  rw[e]
  conv=>lhs;rw[ej]
  rw[hv.2.1];rfl
 ·have ej:j=j / 3*3+2:=by omega
  rw[e]
  conv=>lhs;rw[ej]
  rw[hv.2.2];rfl
theorem grownBy_sortedC [Inhabited Chg] {w:World} {g n:Nat} {os:Array Obj} (d:Array Chg):w.grownBy (sortWorldK encCh 3 w g 0 n d os) (some g):=by
 refine⟨rfl,rfl,rfl,by have:=size_sortWorldK_c encCh 3 w g 0 n d os;exact this,fun k hk hne=>?_⟩
 unfold sortWorldK
 rw[heap_grow_old _ _ (by rw[size_putRowK];simpa using hk)]
 have:g≠k:=fun e=>hne (by rw[e])
 simp[putRowK,putRow,mapBlock,Sort.ahead,Array.getElem?_modify,this]
theorem sortChanges (B g cap:Nat) (xs:List Chg) (w:World) (hown:w.ownsRow B 215 3 (.slice (some ⟨g,0,none⟩) xs.length cap) xs.length (chV xs)) (hg:g<w.heap.size) (hl:xs.length<=2000) :
  Calls Tryz.prog 189 #[.slice (some ⟨g,0,none⟩) xs.length cap,.func (.func 145) #[] #[]] w fun e w'=>e=.returned (.tuple #[]) /\ ∃ ys:List Chg,ys.Perm xs/\ys.Pairwise (fun p q=>bl q.k p.k=false)/\w'.ownsRow B 215 3 (.slice (some ⟨g,0,none⟩) xs.length cap) xs.length (chV ys)/\w.grownBy w' (some g):=by
 have:Inhabited Chg:=⟨⟨ByteArray.empty,ByteArray.empty,false⟩⟩
 have eg:∀ args w,(callFunc 145 args).run Tryz.prog w=.ok (.enter 145 args) w:=enters_of Tryz.func145 (by kernel_rfl) rfl
 have hH:=holds_chV hown
 have hcon:=AnyQ.slices_SortFunc Tryz.laySortC 3 Tryz.isAgg215 Tryz.sizeOf215 encCh (fun _=>rfl) (fun x v hv=>by simp[encCh] at hv;rcases hv with rfl|rfl|rfl <;> rfl) cfC swoC 145 #[] g 0 cap xs.toArray w eg (fun _ _ _ _ x y=>closureC x y _) hH hg (by simp;omega)
 change Calls Tryz.prog 189 _ _ _ at hcon
 rw[show xs.toArray.size=xs.length from by simp] at hcon
 refine hcon.mono ?_
 rintro e w' ⟨rfl,d',n,os,hp,hs,rfl⟩
 have hsz:d'.size=xs.length:=by simpa using hp.1
 refine⟨rfl,d'.toList,?_,?_,own_sortK (enc:=encCh) (fun _=>rfl) d' os hown hsz,grownBy_sortedC d'⟩
 ·have:=hp.2.2
  rw[show d'.extract 0 xs.length=d' from by rw[<- hsz];simp,show xs.toArray.extract 0 xs.length=xs.toArray from by simp] at this
  simpa using this
 ·rw[List.pairwise_iff_getElem]
  intro i j hi hj hij
  have:=hs i j (by omega) hij (by simp at hj ⊢;omega)
  rw[ltC] at this
  simp at hi hj
  simp[hi,hj] at this
  simpa using this
theorem sortNoneC (p:Option Addr) (cap:Nat) (fv:Value) (w:World):Calls Tryz.prog 189 #[.slice p 0 cap,fv] w fun e w'=>e=.returned (.tuple #[])/\w'=w:=
 AnyF.slices_SortFunc_none Tryz.laySortC p cap fv w
theorem dkSorted (b Bm:Nat) (D:DataW Value) (own:List Chg) (hO:OwnR D own) (hr:risC own) (hl:own.length<=20) (w:World) (hBm:Bm<w.heap.size) (hm:w.cell? ⟨Bm,0,none⟩=some (.map (some b))) (hown:w.ownsMap Tryz.prog 9 anyE b own.length D) :
  Calls Tryz.prog 143 #[.func (.func 190) #[] #[.pointer (some ⟨Bm,0,none⟩)],.func (.func 145) #[] #[]] w fun e w'=>∃ (v:Value),e=.returned v/\w'.ownsRow w.heap.size 215 3 v own.length (chV own)/\Below w.heap.size w w':=by
 have K:=dkCollect b Bm D own hO hr hl w hBm hm hown
 go_enter Tryz.func143,Tryz.ntmps143
 go_wp2_with (go_at_call 188;refine K.mono ?_;clear K;rintro e w2 ⟨v,xs,left,rfl,⟨hC,hall⟩,hrow,hb⟩)
 by_cases hn:xs.length=0
 ·have hx0:xs=[]:=List.eq_nil_of_length_eq_zero hn
  have hE:Hid ([]=own):=Com.all hr hC hall (by rw[hx0]) .nil
  obtain⟨p,c,rfl,-⟩:=lw_form hrow
  subst hx0
  refine (sortNoneC p c _ _).mono ?_
  rintro e w3 ⟨rfl,hw⟩
  have:=hw.symm
  subst this
  go_wp2
  go_ret
  exact⟨_,rfl,by rw[<- hE.out];exact hrow,hb⟩
 ·obtain⟨g,c,rfl⟩:=own_block hrow (by omega)
  have hlen:=hC.len
  refine (sortChanges w.heap.size g c xs w2 hrow (own_lt hrow) (by omega)).mono ?_
  rintro e w3 ⟨rfl,ys,hp,hs,hat,hg3⟩
  have hE:Hid (ys=own):=Com.all hr hC hall hp hs
  have hge:w.heap.size<=g:=(hrow.lt g rfl).1
  have hlen2:Hid (xs.length=own.length):=by show _=_;rw[<- hE.out,hp.length_eq]
  go_wp2
  go_ret
  refine⟨_,rfl,?_,hb.grown hg3 hb.size (fun j hj=>by cases hj;exact hge)⟩
  rw[hE.out] at hat
  rw[<- hlen2.out];exact hat
theorem dkList {w:World} {G:Nat->Prop} {b:Nat} {sees:Int} {v:Value} {qs:List Pr} {M:Nat} {D:DataW Value} {own:List Chg} (h:TX w G b sees v qs M D) (hO:OwnR D own) (hr:risC own) (hl:own.length<=20) :
  Calls Tryz.prog 104 #[.pointer (some ⟨b,0,none⟩)] w fun e w'=>∃ (v:Value),e=.returned v/\w'.ownsRow w.heap.size 215 3 v own.length (chV own)/\Below w.heap.size w w':=by
 obtain⟨n,ho⟩:=h.own
 have hot:=own_tight ho
 rw[hO.size ho hr] at hot
 have c2:=h.c2
 have K1:=dkVals (some M) w
 have hb1:=below_al (below_self w) (.cells #[.map (some M)] 173)
 have K2:=dkSorted M w.heap.size D own hO hr hl (w.alloc (.cells #[.map (some M)] 173)) (by simp) (by simp) (hot.alloc _)
 go_enter Tryz.func104,Tryz.ntmps104
 go_wp2_with (first
  | (go_at_call 144;refine K1.mono ?_;clear K1;rintro e w2 ⟨rfl,rfl⟩)
  | (go_at_call 143;refine K2.mono ?_;clear K2;rintro e w3 ⟨u,rfl,hrow,hb⟩))
 go_ret
 exact⟨u,rfl,ownMono (by simp) hrow,below_via hb1 hb⟩
end Go.Proofs.YtcjdoeclblhaeaaGreatDoor
namespace Go.Proofs.YtcjdoeclblhaeaaGreatDoor
open Go.RowKit Go.Maps Go.Shelf Go.Lib Go.Sort Vs
theorem over2 (x y:ByteArray×ByteArray) (W:World):Calls Tryz.prog 299 #[.agg #[.string x.1,.string x.2],.agg #[.string y.1,.string y.2]] W fun e w'=>e=.returned (.int .i64 (cmS x.1 y.1)) /\ ∃ q os',w'=grow (W.drewN q) os':=by
 have hcon:=fun W'=>compareS x.1 y.1 W'
 generalize cmS x.1 y.1=r at hcon ⊢
 go_enter Tryz.func299,Tryz.ntmps299
 go_wp2_with (go_at_call 135;refine (hcon _).mono ?_;rintro e w' ⟨rfl,rfl⟩)
 go_ret
 exact⟨rfl,0,_,by rw[alloc_eq_grow,alloc_eq_grow,grow_grow];rfl⟩
theorem enter1:∀ args w,(callFunc 297 args).run Tryz.prog w=.ok (.enter 297 args) w:=enters_of Tryz.func297 (by kernel_rfl) rfl
theorem enter2:∀ args w,(callFunc 299 args).run Tryz.prog w=.ok (.enter 299 args) w:=enters_of Tryz.func299 (by kernel_rfl) rfl
theorem vrng_key {vs:List Ver} {top:Int} (hT:OkT vs top) {lo hi:ByteArray} {a:Int} {p:Pr} (hp:p∈vrng vs lo hi a):p.1.size<=maxLen:=by
 obtain⟨y,hy,e⟩:=vget_mem (((vrng_is hT lo hi a).2 p).1 hp).2
 have:=(hT.each y hy).1.2.1
 rw[e] at this
 unfold maxLen;omega
theorem own_keep {w w':World} {B e size n:Nat} {v:Value} {xs:List Value} {row:Option Nat} (h:w.ownsRow B e size v n xs) (hg:w.grownBy w' row) (hr:∀ k,v.ownBlock=some k->row≠some k):w'.ownsRow B e size v n xs:=by
 refine⟨h.1,?_⟩
 rcases h.2 with hn|⟨g,cap,cur,rfl,h1,hh,rest⟩
 ·exact .inl hn
 ·exact .inr ⟨g,cap,cur,rfl,h1,(hg.block g (Array.getElem?_eq_some_iff.1 hh).1 (fun e=>hr g rfl e.symm)).trans hh,rest⟩
theorem dkOver {w0 w:World} {G:Nat->Prop} {b:Nat} {sees:Int} {v:Value} {qs:List Pr} {M:Nat} {D:DataW Value} {own:List Chg} (h:TX w0 G b sees v qs M D) (hO:OwnR D own) (hr:risC own) (hl:own.length<=20) {vs:List Ver} {top:Int} (hT:OkT vs top) (hvl:vs.length<=1000) (lo hi:ByteArray) (u:Value) (hb:Below w0.heap.size w0 w)
  (hrow:w.ownsRow w0.heap.size 141 2 u (vrng vs lo hi sees).length (prV (vrng vs lo hi sees))) :
  Calls Tryz.prog 282 #[.pointer (some ⟨b,0,none⟩),u,.agg #[.string lo,.string hi]] w fun e w'=>∃ u',e=.returned u'/\w'.ownsRow w0.heap.size 141 2 u' (rngO vs sees own lo hi).length (prV (rngO vs sees own lo hi))/\Below w0.heap.size w0 w':=by
 have hs0:=hb.size
 have hlen:(vrng vs lo hi sees).length<=1000:=Nat.le_trans (vrng_len _ _ _ _) hvl
 have hb1:Below w0.heap.size w0 ((w.alloc (.cells #[.pointer (some ⟨b,0,none⟩)] 167)).alloc (.cells #[.string lo,.string hi] 207)):=(hb.alloc hs0 _).alloc (by simp;omega) _
 have hrow1:=(hrow.alloc (.cells #[.pointer (some ⟨b,0,none⟩)] 167)).alloc (.cells #[.string lo,.string hi] 207)
 have hub:∀ j,u.ownBlock=some j->w0.heap.size<=j/\j<w.heap.size:=fun j hj=>hrow.lt j hj
 have hD:=deletePr 297 #[.pointer (some ⟨w.heap.size,0,none⟩)] enter1 (fun x=>(ownC own x.1).isSome) w0.heap.size u (vrng vs lo hi sees) _ (by omega) hrow1 (fun x w1 hx hbx=>by
  have hbw:Below w0.heap.size w0 w1:=hb1.trans (hbx.under (by simp;omega) (fun k hk e=>by have:=hub k e;omega))
  exact over1 (h.step hbw) hO ((hbx.cell (p:=⟨w.heap.size,0,none⟩) (by simp;omega) (fun e=>by have:=hub _ e;simp at this)).trans (by simp)) x (vrng_key hT hx))
 have hbase:Hid ((vrng vs lo hi sees).filter (fun x => !(ownC own x.1).isSome)=bsO vs sees own lo hi):=by
  show _=_
  rw[bsO];congr 1;funext x;simp
 rw[hbase.out] at hD
 have hbl:(bsO vs sees own lo hi).length<=1000:=by rw[bsO];exact Nat.le_trans (List.length_filter_le _ _) hlen
 clear hbase hrow1 hrow hlen
 obtain⟨n0,ho0⟩:=h.own
 have hot:=own_tight ho0
 rw[hO.size ho0 hr] at hot
 have hhas:Hid (∀ k c,ownC own k=some c->Maps.has D (kS k)=true):=fun k c hc=>by
  rw[(look_at hot (kS k) undef).2,hO k,hc];rfl
 have hbM:=h.ltM
 go_enter Tryz.func282,Tryz.ntmps282
 go_wp2_with (first
  | (go_at_call 296;refine hD.mono ?_;clear hD;rintro e w2 ⟨u2,rfl,row2,hbu,hu2⟩;have hb2:Below w0.heap.size w0 w2:=hb1.trans (hbu.under (by simp;omega) (fun k hk e=>by have:=hub k e;omega));have cT:w2.cell? ⟨w.heap.size,0,none⟩=some (.pointer (some ⟨b,0,none⟩)):=(hbu.cell (p:=⟨w.heap.size,0,none⟩) (by simp;omega) (fun e=>by have:=hub _ e;simp at this)).trans (by simp);have cM:=(hb2.cell (p:=⟨b,2,none⟩) h.lt).trans h.c2;have own2:=map_but (F:=fun _=>False) hot (.below hb2) id)
  | (at_range;refine wpList_range_own _ rfl _ 173 rfl 9 215 keyed Tryz.underlying173 _ M own.length D rfl own2 ?_;intro w3 hrg0 hg0 hs3)
  | go_in)
 go_frame
 have hb3:Below w0.heap.size w0 w3:=hb2.grown hg0 hb2.size (fun k e=>by cases e)
 have s2:=hbu.size
 simp at s2
 have cS0:w3.cell? ⟨w.heap.size+1,0,none⟩=some (.string lo):=hg0.cell ((hbu.cell (p:=⟨w.heap.size+1,0,none⟩) (by simp) (fun e=>by have:=hub _ e;simp at this;omega)).trans (by simp)) (by simp)
 have cS1:w3.cell? ⟨w.heap.size+1,1,none⟩=some (.string hi):=hg0.cell ((hbu.cell (p:=⟨w.heap.size+1,1,none⟩) (by simp) (fun e=>by have:=hub _ e;simp at this;omega)).trans (by simp)) (by simp)
 have row3:=own_grown row2 hg0 (fun k e=>by cases e)
 have hu3:∀ j,u2.ownBlock=some j->w0.heap.size<=j/\j≠w.heap.size+1/\j≠w2.heap.size:=fun j hj=>by have:=hub j (hu2 j hj);omega
 have hstart:Hid (Gto own (bsO vs sees own lo hi) lo hi (fun t=>Maps.has D (kS t)) (bsO vs sees own lo hi)):=Gto.start (bsO_rises hT sees own lo hi) hhas.out
 clear hhas cM cT own2 hbu hg0 row2 hu2 hub
 go_loopw [7] (fun z wr=>∃ (left:Lit->Bool) (cnt:Nat) (ps:List Pr),wr.ranges Tryz.prog 9 anyE M w2.heap.size own.length D left cnt/\wr.ownsRow w0.heap.size 141 2 z ps.length (prV ps)/\Hid (Gto own (bsO vs sees own lo hi) lo hi (fun t=>left (kS t)) ps)/\Below w0.heap.size w0 wr/\w2.heap.size<wr.heap.size/\(∀ j,z.ownBlock=some j->w0.heap.size<=j/\j≠w.heap.size+1/\j≠w2.heap.size)/\wr.cell? ⟨w.heap.size+1,0,none⟩=some (.string lo)/\wr.cell? ⟨w.heap.size+1,1,none⟩=some (.string hi))
  (fun _ wr=>wr.rangeLeft M w2.heap.size)
 case atStart=>exact⟨_,_,_,hrg0,row3,hstart,hb3,by omega,hu3,cS0,cS1⟩
 case round=>
  clear hstart hrg0 row3 hb3 hu3 cS0 cS1
  obtain⟨left,cnt,ps,hrg,hown,hG,hbr,hsw,huz,cS0,cS1⟩:=hrel
  go_wp2_with (first
   | (at_next;refine wpList_next_str rfl _ rfl 9 Tryz.underlying9 M w2.heap.size own.length D left cnt rfl hrg ?_ ?_)
   | go_in)
  ·intro hc0 hl0
   have hlen:=hG.out.len
   by_cases hn:ps.length=0
   ·have hp0:ps=[]:=List.eq_nil_of_length_eq_zero hn
    have hE:Hid ([]=rngO vs sees own lo hi):=Gto.all hT hr hG.out (fun t=>hl0 _) (by rw[hp0]) .nil
    obtain⟨p,cp,rfl⟩:=own_form hown
    rw[hn] at *
    have hPs:Hid (ps=[]):=hp0
    clear hG hp0 hrg
    go_wp2_with (go_at_call 133;refine (sortNone _ _ _ _).mono ?_;rintro e w5 ⟨rfl,hw⟩;have:=hw.symm;subst this)
    go_ret
    exact⟨_,rfl,by rw[<- hE.out];rw[hPs.out] at hown;exact hown,hbr⟩
   ·obtain⟨g,c,rfl⟩:=own_block hown (by omega)
    have hS:=sortPairsG 299 enter2 (fun _ _ _ _ _ _ _ _ x y=>over2 x y _) w0.heap.size g c ps wr hown (own_lt hown) (by omega)
    have hge:=(huz g rfl).1
    clear hrg
    go_wp2_with (go_at_call 133;refine hS.mono ?_;rintro e w5 ⟨rfl,ys,hp,hs,hat,hg5⟩)
    go_ret
    have hE:=Gto.all hT hr hG.out (fun t=>hl0 _) hp hs
    exact⟨_,rfl,by rw[<- hE,hp.length_eq];exact hat,hbr.grown hg5 hbr.size (fun j hj=>by cases hj;omega)⟩
  ·intro s y w5 cnt5 hsz hlk hlook hrg5 hlt hg5 hs5 hen
   have hb5:Below w0.heap.size w0 w5:=hbr.grown hg5 hbr.size (fun j hj=>by have:w2.heap.size=j:=Option.some.inj hj;omega)
   have own5:=own_keep hown hg5 (fun k hk e=>(huz k hk).2.2 (Option.some.inj e).symm)
   have k0:w5.cell? ⟨w.heap.size+1,0,none⟩=some (.string lo):=hg5.cell cS0 (by simp;omega)
   have k1:w5.cell? ⟨w.heap.size+1,1,none⟩=some (.string hi):=hg5.cell cS1 (by simp;omega)
   obtain⟨⟨ck,cv,cg⟩,hc,rfl⟩:=hO.found hlook
   have hst:Hid (∀ t,(fun z=>left z && !z.sameKey (kS s)) (kS t)=((fun t=>left (kS t)) t && !decide (t=s))):=fun t=>by
    show (left (kS t) && !(kS t).sameKey (kS s))=_
    rw[sameS]
   have hlm:Hid ((fun t=>left (kS t)) s=true):=hlk
   have s5:=hg5.size
   have KH:=dkHas lo hi s (w5.alloc (.cells #[.string ck,.string cv,.bool cg] 215))
   have hb6:=hb5.alloc (by omega) (.cells #[.string ck,.string cv,.bool cg] 215)
   have own6:=own5.alloc (.cells #[.string ck,.string cv,.bool cg] 215)
   have hrg6:=hrg5.alloc (.cells #[.string ck,.string cv,.bool cg] 215)
   have j0:(w5.alloc (.cells #[.string ck,.string cv,.bool cg] 215)).cell? ⟨w.heap.size+1,0,none⟩=some (.string lo):=Lib.cell?_alloc_some _ k0
   have j1:(w5.alloc (.cells #[.string ck,.string cv,.bool cg] 215)).cell? ⟨w.heap.size+1,1,none⟩=some (.string hi):=Lib.cell?_alloc_some _ k1
   have hlen:=hG.out.len
   have keep:∀ w7,Below (w5.alloc (.cells #[.string ck,.string cv,.bool cg] 215)).heap.size (w5.alloc (.cells #[.string ck,.string cv,.bool cg] 215)) w7->Below w0.heap.size w0 w7/\w2.heap.size<w7.heap.size/\w7.cell? ⟨w.heap.size+1,0,none⟩=some (.string lo)/\w7.cell? ⟨w.heap.size+1,1,none⟩=some (.string hi):=fun w7 hb7=>⟨hb6.trans (hb7.mono (by simp;omega)),by have:=hb7.size;simp at this;omega,(hb7.cell (p:=⟨w.heap.size+1,0,none⟩) (by simp;omega)).trans j0,(hb7.cell (p:=⟨w.heap.size+1,1,none⟩) (by simp;omega)).trans j1⟩
   cases hbt:btw lo hi s
   ·rw[hbt] at KH
    have hG2:Hid (Gto own (bsO vs sees own lo hi) lo hi (fun t=>(fun z=>left z && !z.sameKey (kS s)) (kS t)) ps):=hG.out.skip hc hst.out (.inl hbt)
    clear hG hst hlm hlook hbt hc cS0 cS1
    go_wp2_with (go_at_call 298;refine KH.mono ?_;rintro e w7 ⟨rfl,hb7⟩)
    obtain⟨q1,q2,q3,q4⟩:=keep _ hb7
    have hg7:=below_grownBy hb7
    have hrg7:=hrg6.kept hg7 (by simp) (by simp)
    exact⟨⟨_,cnt5,ps,hrg7,own_keep own6 hg7 (fun k _ e=>by cases e),hG2,q1,q2,huz,q3,q4⟩,by rw[hrg7.left_eq,hrg.left_eq];exact hlt⟩
   ·rw[hbt] at KH
    cases cg
    ·have hG2:Hid (Gto own (bsO vs sees own lo hi) lo hi (fun t=>(fun z=>left z && !z.sameKey (kS s)) (kS t)) (ps ++ [(s,cv)])):=hG.out.more bsO_no hc hlm.out hst.out hbt rfl
     clear hG hst hlm hlook hbt hc cS0 cS1
     go_wp2_with (first
      | (go_at_call 298;refine KH.mono ?_;rintro e w7 ⟨rfl,hb7⟩;obtain⟨q1,q2,q3,q4⟩:=keep _ hb7;have hg7:=below_grownBy hb7;have hrg7:=hrg6.kept hg7 (by simp) (by simp);have own7:=own_keep own6 hg7 (fun k _ e=>by cases e);have z1:w7.cell? ⟨wr.heap.size,1,none⟩=some (.string cv):=(by rw[<- hs5];exact (hb7.cell (p:=⟨w5.heap.size,1,none⟩) (by simp)).trans (by simp));have z2:w7.cell? ⟨wr.heap.size,2,none⟩=some (.bool false):=(by rw[<- hs5];exact (hb7.cell (p:=⟨w5.heap.size,2,none⟩) (by simp)).trans (by simp)))
      | (at_builtin;refine wpList_append_oneAt 138 141 2 32 _ Tryz.underlying138 infoPr rfl (by decide) (by decide) rfl _ _ rfl w0.heap.size _ ps.length (prV ps) rfl (own7.alloc _) (by simp;omega) w7.heap.size (prV [(s,cv)]) rfl rfl (two_new _ _ _ _ _ rfl) (two_one s cv) (by omega) ?_;intro v8 w8 own8 hg8 hv8))
     have hb8:Below w0.heap.size w0 w8:=(q1.alloc (by omega) _).grown hg8 (by simp;omega) (fun j hj=>(huz j hj).1)
     have hrg8:=(hrg7.alloc _).kept hg8 (fun e=>by have:=(huz M e.symm).1;omega) (fun e=>(huz _ e.symm).2.2 rfl)
     rw[<- prV_app] at own8
     have s8:=hg8.size
     simp at s8
     exact⟨⟨_,cnt5,ps ++ [(s,cv)],hrg8,by simpa using own8,hG2,hb8,by omega,fun j hj=>by
      rcases hv8 with e|e
      ·exact huz j (e ▸ hj)
      ·rw[e] at hj
       have:(w7.alloc _).heap.size=j:=Option.some.inj hj
       simp at this;omega,hg8.cell (Lib.cell?_alloc_some _ q3) (fun e=>(huz _ e.symm).2.1 rfl),hg8.cell (Lib.cell?_alloc_some _ q4) (fun e=>(huz _ e.symm).2.1 rfl)⟩,by rw[hrg8.left_eq,hrg.left_eq];exact hlt⟩
    ·have hG2:Hid (Gto own (bsO vs sees own lo hi) lo hi (fun t=>(fun z=>left z && !z.sameKey (kS s)) (kS t)) ps):=hG.out.skip hc hst.out (.inr rfl)
     clear hG hst hlm hlook hbt hc cS0 cS1
     go_wp2_with (go_at_call 298;refine KH.mono ?_;rintro e w7 ⟨rfl,hb7⟩;have z2:w7.cell? ⟨wr.heap.size,2,none⟩=some (.bool true):=(by rw[<- hs5];exact (hb7.cell (p:=⟨w5.heap.size,2,none⟩) (by simp)).trans (by simp)))
     obtain⟨q1,q2,q3,q4⟩:=keep _ hb7
     have hg7:=below_grownBy hb7
     have hrg7:=hrg6.kept hg7 (by simp) (by simp)
     exact⟨⟨_,cnt5,ps,hrg7,own_keep own6 hg7 (fun k _ e=>by cases e),hG2,q1,q2,huz,q3,q4⟩,by rw[hrg7.left_eq,hrg.left_eq];exact hlt⟩
end Go.Proofs.YtcjdoeclblhaeaaGreatDoor
namespace Go.Proofs.YtcjdoeclblhaeaaGreatDoor
open Go.RowKit Go.Maps Vs
theorem dkRange {w:World} {F:Nat->Prop} {B:Nat} {d:Dk} (i:Int) (lo hi:ByteArray) (h:DT w F B d) (ok:OkD d) (hvl:d.vs.length<=1000) (hFw:∀ j,F j->j<w.heap.size) :
  Calls Tryz.prog 253 #[.pointer (some ⟨B,0,none⟩),.int .i64 i,.string lo,.string hi] w fun e w'=>∃ (q:Option Addr) (cq:Nat) (F':Nat->Prop),e=.returned (.tuple #[.slice q (drS d i lo hi).length cq,ev (drF d i)])/\(drS d i lo hi).length<=cq/\PrIn (fun j=>w.heap.size<=j /\ ¬ F' j) w' q (drS d i lo hi)/\DT w' F' B (drD d i lo hi)/\(∀ j,F' j->Nw F w w' j)/\But F w w':=by
 obtain⟨cc,L,Tb,M,D,hx,htl,hF⟩:=h
 have hsame:∀ w',Below w.heap.size w w'->DT w' F B d:=fun w' hb=>⟨cc,L,Tb,M,D,hx.step hb,htl,hF⟩
 cases hi2:opI d i with
 | none=>
  rw[show drS d i lo hi=[] from by rw[drS,hi2],show drF d i=4 from by rw[drF,hi2],show drD d i lo hi=d from by rw[drD,hi2],ev_ne (by decide)]
  have K:=dkFindNo hx i hi2
  go_enter Tryz.func253,Tryz.ntmps253
  go_wp2_with (go_at_call 138;refine K.mono ?_;rintro e w2 ⟨rfl,hw⟩;have:=hw.symm;subst this)
  go_ret2
  exact⟨none,0,F,rfl,Nat.le_refl _,fun hp=>by simp at hp,hsame _ (below_self _),fun j hj=>.inl hj,.refl _ _⟩
 | some o=>
  obtain⟨h1,b,hb,v,qs,Mo,Do,tx,hq,hO⟩:=hx.tx i o hi2
  obtain⟨om,oi⟩:=opI_some hi2
  have oko:=ok.op o om
  have K:=dkFind hx i hb
  have hlq:=hq.len
  have hb1:=below_al (below_self w) (.cells #[.string lo,.string hi] 207)
  by_cases h100:100<=o.asked
  ·rw[show drS d i lo hi=[] from by rw[drS,hi2];simp only;rw[if_pos h100],show drF d i=3 from by rw[drF,hi2];simp only;rw[if_pos h100],show drD d i lo hi=d from by rw[drD,hi2];simp only;rw[if_pos h100],ev_ne (by decide)]
   have ha:=oko.a1
   have K4:=dkAskNo (tx.step hb1) lo hi (by omega) (by omega)
   go_enter Tryz.func253,Tryz.ntmps253
   go_wp2_with (first
    | (go_at_call 138;refine K.mono ?_;rintro e w2 ⟨rfl,hw⟩;have:=hw.symm;subst this)
    | (go_at_call 246;refine K4.mono ?_;rintro e w5 ⟨rfl,hb5⟩))
   go_ret2
   have hb6:=below_via hb1 hb5
   exact⟨none,0,F,rfl,Nat.le_refl _,fun hp=>by simp at hp,hsame _ hb6,fun j hj=>.inl hj,.below hb6⟩
  ·have K4:=dkAskOk (tx.step hb1) lo hi (by omega)
   rw[show drS d i lo hi=rngO d.vs o.sees o.own lo hi from by rw[drS,hi2];simp only;rw[if_neg h100],show drF d i=0 from by rw[drF,hi2];simp only;rw[if_neg h100],show drD d i lo hi=opSet d (askR o lo hi) from by rw[drD,hi2];simp only;rw[if_neg h100],ev_0]
   have hq2:=hq.span lo hi
   have hat:=sees_at ok om
   have K5:=fun (w5:World) (Gt:Nat->Prop) (ht:Tab w5 Gt Tb d.vs d.top)=>rangeO lo hi o.sees w5 ht ok.tb hvl
   rw[atF_0 hat,hat,ev_0] at K5
   have K6:=fun (w0 w1:World) (Gx:Nat->Prop) (vx:Value) (qx:List Pr) (u:Value) (t:TX w0 Gx b o.sees vx qx Mo Do) (hbx:Below w0.heap.size w0 w1) hrow=>dkOver t hO (chF_ris oko.own) (chF_ok oko.own).1 ok.tb hvl lo hi u hbx hrow
   generalize hRR:rngO d.vs o.sees o.own lo hi=RR at K6 ⊢
   generalize hVV:vrng d.vs lo hi o.sees=VV at K5 K6
   clear hRR hVV hat
   go_enter Tryz.func253,Tryz.ntmps253
   go_wp2_with (first
    | (go_at_call 138;refine K.mono ?_;rintro e w2 ⟨rfl,hw⟩;have:=hw.symm;subst this)
    | (go_at_call 246;refine K4.mono ?_;rintro e w5 ⟨rfl,⟨v5,X5⟩,B5⟩))
   obtain⟨hX,hF',hB'⟩:=DX.asked (o':=askR o lo hi) hx hF hi2 oi hb hb1 X5 B5 hq2 hO rfl rfl
   have hb6:=(below_self w5).drew
   have hX6:=hX.step hb6
   have X6:=X5.step hb6
   have m1:=hX6.c1
   have m0:=X6.c0
   clear K K4
   go_region_held3 (fun wy=>wy.cell? ⟨B,1,none⟩=some (.pointer (some ⟨Tb,0,none⟩))/\wy.cell? ⟨b,0,none⟩=some (.int .i64 o.sees))
    (first|exact⟨m1,m0⟩|exact⟨q1,q0⟩)
    (first|(go_at_call 96;refine (K5 _ _ hX6.tb).mono ?_;rintro e w7 ⟨p7,c7,rfl,row7,hb7⟩;have q1:=(hb7.cell (p:=⟨B,1,none⟩) hX6.ltB).trans m1;have q0:=(hb7.cell (p:=⟨b,0,none⟩) X6.lt).trans m0))
   have hnF:¬ cc w.heap.size=i:=fun e=>by
    have:=hFw _ (hF w.heap.size (by omega))
    omega
   have s5:=B5.size
   simp at s5
   have s7:=hb7.size
   have p0:w7.cell? ⟨w.heap.size,0,none⟩=some (.string lo):=(hb7.cell (p:=⟨w.heap.size,0,none⟩) (by simp;omega)).trans ((B5.cell (p:=⟨w.heap.size,0,none⟩) (by simp) hnF).trans (by simp))
   have p1:w7.cell? ⟨w.heap.size,1,none⟩=some (.string hi):=(hb7.cell (p:=⟨w.heap.size,1,none⟩) (by simp;omega)).trans ((B5.cell (p:=⟨w.heap.size,1,none⟩) (by simp) hnF).trans (by simp))
   have K7:=K6 w5.drew w7 _ _ _ _ X6 hb7 row7
   clear K5 K6
   go_wp2_with (go_at_call 282;refine K7.mono ?_;rintro e w8 ⟨u8,rfl,row8,hb8⟩)
   obtain⟨p8,c8,rfl,hc8,hc9,hp8⟩:=lw_form row8
   go_ret2
   have hb9:=below_via hb6 hb8
   have z9:=hb9.size
   refine⟨p8,c8,Nw F w w5,rfl,hc8,fun hp=>?_,⟨_,L,Tb,M,D,hX.step hb9,htl,hF'⟩,fun j hj=>hj.imp id (fun e=>⟨e.1,by omega⟩),hB'.step hb9⟩
   obtain⟨g8,o8,e1,e2,e3⟩:=(prAt_own row8).2 hp
   subst e1
   have e4:w5.heap.size<=g8:=(row8.lt g8 rfl).1
   refine⟨g8,o8,rfl,e2,⟨by omega,fun e=>?_⟩,e3⟩
   rcases e with e|e
   ·have:=hFw _ e;omega
   ·omega
end Go.Proofs.YtcjdoeclblhaeaaGreatDoor
namespace Go.Proofs.YtcjdoeclblhaeaaGreatDoor
open Go.RowKit Go.Maps Vs
theorem dkCommit {w:World} {F:Nat->Prop} {B:Nat} {d:Dk} (i:Int) (h:DT w F B d) (ok:OkD d) (hwt:wt d<=900) (hz:Spz d) :
  Calls Tryz.prog 75 #[.pointer (some ⟨B,0,none⟩),.int .i64 i] w fun e w'=>e=.returned (.tuple #[.int .i64 (cmN d i),ev (cmF d i)])/\DT w' (Nw F w w') B (cmD d i)/\But F w w':=by
 obtain⟨cc,L,Tb,M,D,hx,htl,hF⟩:=h
 have hM:F M:=hF M (by rw[hx.cM];decide)
 have hsf:=sf_cm ok i
 have hvl:=ok.len
 unfold wt at hwt
 cases hi:opI d i with
 | none=>
  rw[show cmN d i=0 from by rw[cmN,hi],show cmF d i=4 from by rw[cmF,hi],show cmD d i=d from by rw[cmD,hi],ev_ne (by decide)]
  have K:=dkEndNo hx i hi
  clear hsf
  go_enter Tryz.func75,Tryz.ntmps75
  go_wp2_with (go_at_call 102;refine K.mono ?_;rintro e w2 ⟨rfl,⟨D',X⟩,B2,-⟩)
  go_ret2
  exact⟨rfl,⟨cc,L,Tb,M,D',X,htl,fun j hj=>.inl (hF j hj)⟩,B2.mono (fun j _ e=>by rw[e];exact hM)⟩
 | some o=>
  obtain⟨om,oi⟩:=opI_some hi
  have oko:=ok.op o om
  have hown20:=(chF_ok oko.own).1
  have howt:=wtO_in om
  have K1:=dkEnd hx i hi (ox':=opI (opDel d i)) (fun j=>opI_del d i j)
  have hat:=sees_at ok om
  have hq24:∀ qs,AskR qs o->(∀ x∈qs,x.1.size<9223372036854775807)/\qs.length<=1000:=fun qs hq=>by
   refine⟨fun x hx=>?_,by have:=hq.len;have:=oko.a1;omega⟩
   rcases (hq.mem x).1 hx with ⟨k,hk,rfl⟩|hs
   ·have:=(oko.keys k hk).2
    show k.size<_;omega
   ·exact hz o om x hs
  cases hcl:clash d.vs o with
  | true=>
   have eN:cmN d i=0:=by rw[cmN,hi];simp only;rw[if_pos hcl]
   have eF:cmF d i=6:=by rw[cmF,hi];simp only;rw[if_pos hcl]
   have eD:cmD d i=opDel d i:=by rw[cmD,hi];simp only;rw[if_pos hcl]
   rw[eN,eF,eD,ev_ne (by decide)]
   clear hsf eN eF eD
   go_enter Tryz.func75,Tryz.ntmps75
   go_wp2_with (first
    | (go_at_call 102;refine K1.mono ?_;clear K1;rintro e w2 ⟨b,rfl,⟨v,qs,Mo,Do,tx,hq,hO⟩,h1,⟨D',X⟩,B2,hs2⟩;have K2:=dkClash X tx hq hO oko.own ok.tb (by omega) hat (hq24 qs hq).1 (hq24 qs hq).2;rw[hcl] at K2)
    | (go_at_call 103;refine K2.mono ?_;clear K2;rintro e w3 ⟨rfl,hb3⟩))
   go_ret2
   exact⟨rfl,⟨cc,L,Tb,M,D',X.step hb3,htl,fun j hj=>.inl (hF j hj)⟩,(B2.mono (fun j _ e=>by rw[e];exact hM):But F w w2).step hb3⟩
  | false=>
   by_cases ho0:o.own=[]
   ·have eN:cmN d i=o.sees:=by rw[cmN,hi];simp only;rw[if_neg (by rw[hcl];decide),if_pos ho0]
    have eF:cmF d i=0:=by rw[cmF,hi];simp only;rw[if_neg (by rw[hcl];decide),if_pos ho0]
    have eD:cmD d i=opDel d i:=by rw[cmD,hi];simp only;rw[if_neg (by rw[hcl];decide),if_pos ho0]
    rw[eN,eF,eD,ev_0]
    have hl0:o.own.length=0:=by rw[ho0];rfl
    clear hsf eN eF eD
    go_enter Tryz.func75,Tryz.ntmps75
    go_wp2_with (first
     | (go_at_call 102;refine K1.mono ?_;clear K1;rintro e w2 ⟨b,rfl,⟨v,qs,Mo,Do,tx,hq,hO⟩,h1,⟨D',X⟩,B2,hs2⟩;have K2:=dkClash X tx hq hO oko.own ok.tb (by omega) hat (hq24 qs hq).1 (hq24 qs hq).2;rw[hcl] at K2)
     | (go_at_call 103;refine K2.mono ?_;clear K2;rintro e w3 ⟨rfl,hb3⟩;have tx3:=tx.step hb3;have k0:=tx3.c0;have k2:=tx3.c2;obtain⟨n3,ho3⟩:=tx3.own;have hln:=ho3.len Tryz.underlying173;rw[hO.size ho3 (chF_ris oko.own),hl0] at hln))
    go_ret2
    exact⟨rfl,⟨cc,L,Tb,M,D',X.step hb3,htl,fun j hj=>.inl (hF j hj)⟩,(B2.mono (fun j _ e=>by rw[e];exact hM):But F w w2).step hb3⟩
   ·have hl0:¬ o.own.length=0:=fun e=>ho0 (List.eq_nil_of_length_eq_zero e)
    have hlz:((o.own.length:Int)==0)=false:=by simpa using hl0
    have hch:=ok.lg
    by_cases ha:apF d.lg o.own=0
    ·have eN:cmN d i=d.last+1:=by rw[cmN,hi];simp only;rw[if_neg (by rw[hcl];decide),if_neg ho0,if_pos ha]
     have eF:cmF d i=0:=by rw[cmF,hi];simp only;rw[if_neg (by rw[hcl];decide),if_neg ho0];exact ha
     have eD:cmD d i=addL (opDel d i) o.own:=by rw[cmD,hi];simp only;rw[if_neg (by rw[hcl];decide),if_neg ho0,if_pos ha]
     have okc:=ok.cm i
     have hmax:=last_max okc
     rw[eD] at hmax hsf
     have hmax:d.last+1<=1000000:=hmax
     have hl00:0<=d.last:=by rw[ok.last];omega
     rw[eN,eF,eD,ev_0]
     rw[<- htl] at hmax hl00 ⊢
     clear eN eF eD okc ho0
     go_enter Tryz.func75,Tryz.ntmps75
     replace htl:Hid _:=htl
     go_wp2_with (first
      | (go_at_call 102;refine K1.mono ?_;clear K1;rintro e w2 ⟨b,rfl,⟨v,qs,Mo,Do,tx,hq,hO⟩,h1,⟨D',X⟩,B2,hs2⟩;have K2:=dkClash X tx hq hO oko.own ok.tb (by omega) hat (hq24 qs hq).1 (hq24 qs hq).2;rw[hcl] at K2)
      | (go_at_call 103;refine K2.mono ?_;clear K2;rintro e w3 ⟨rfl,hb3⟩;have tx3:=tx.step hb3;have X3:=X.step hb3;have k0:=X3.c0;have k2:=tx3.c2;obtain⟨n3,ho3⟩:=tx3.own;have hln:=ho3.len Tryz.underlying173;rw[hO.size ho3 (chF_ris oko.own)] at hln;have K4:=dkList tx3 hO (chF_ris oko.own) hown20)
      | (go_at_call 104;refine K4.mono ?_;clear K4;rintro e w4 ⟨u,rfl,hrow,hb4⟩;obtain⟨p4,c4,rfl,hc4,hc4',-⟩:=lw_form hrow;have X4:=X3.step hb4;have m0:=X4.c0;have K5:=lgAppend o.own p4 c4 X4.lg ok.lg hc4 hc4' (chAt_own hrow).2;rw[ha,ev_0] at K5)
      | (go_at_call 105;refine K5.mono ?_;clear K5;rintro e w5 ⟨rfl,hT5,b5⟩;have X5:=X4.logs hT5 b5;have K6:=dxTop X5)
      | (go_at_call 92;refine K6.mono ?_;clear K6;rintro e w6 ⟨rfl,hw⟩;have:=hw.symm;subst this))
     have hnew:∀ j,w3.heap.size<=j->cc j=0:=fun j hj=>by
      by_cases e:cc j=0
      ·exact e
      ·have:=X3.lt j e;omega
     have hch4:ChIn w4 (fun j=>w3.heap.size<=j/\j<w4.heap.size) p4 o.own:=fun hp=>by
      obtain⟨b',off,e1,e2,e3⟩:=(chAt_own hrow).2 hp
      subst e1
      exact⟨b',off,rfl,e2,⟨(hrow.lt b' rfl).1,e2⟩,e3⟩
     have hch5:ChIn w5 (fun j=>¬ rc cc (-3) w4 w5 j = -4) p4 o.own:=(hch4.but b5 (fun j _ hj e=>by rw[hnew j hj.1] at e;cases e)).mono (fun j _ hj e=>by rw[rc_old hj.2,hnew j hj.1] at e;cases e)
     have K7:=dkShow X5 ok.tb o.own p4 c4 (d.top+1) oko.own (by omega) hmax (by omega) hch5
     refine K7.mono ?_
     rintro e w7 ⟨rfl,c7,hS⟩
     clear K7
     go_wp2_with fail
     go_ret2
     have s3:=hb3.size
     have s4:=hb4.size
     have s5:=b5.size
     have s7:=hS.bt.size
     have bt4:But F w w4:=((B2.mono (fun j _ e=>by rw[e];exact hM):But F w w2).step hb3).step hb4
     have bt5:But F w w5:=bt4.then (rc_but hF (by decide) b5) (fun _ _=>id)
     refine⟨rfl,⟨c7,L,Tb,M,D',?_,rfl,fun j hj=>?_⟩,bt5.then hS.bt (fun j hj e=>hF j (by rw[rc_old (by omega)] at e;rw[e];decide))⟩
     ·have hd:=hS.dx
      have e1:shT d.top (d.top+1) o.own.length=d.last+1:=by rw[shT,if_neg hl0,htl.out]
      rw[e1] at hd
      rw[hsf]
      show DX w7 c7 B L Tb M D' d.ids (sfN d) (apG d.lg o.own) (d.vs++o.own.map (verC (d.last+1))) (d.last+1) _
      rw[<- htl.out] at hd ⊢
      exact hd
     ·by_cases hjw:j<w.heap.size
      ·rw[hS.old j (by omega),rc_old (by omega)] at hj
       exact .inl (hF j hj)
      ·exact .inr ⟨by omega,hS.dx.lt j hj⟩
    ·have eN:cmN d i=0:=by rw[cmN,hi];simp only;rw[if_neg (by rw[hcl];decide),if_neg ho0,if_neg ha]
     have eF:cmF d i=apF d.lg o.own:=by rw[cmF,hi];simp only;rw[if_neg (by rw[hcl];decide),if_neg ho0]
     have eD:cmD d i={ opDel d i with lg:=apG d.lg o.own }:=by rw[cmD,hi];simp only;rw[if_neg (by rw[hcl];decide),if_neg ho0,if_neg ha]
     rw[eD] at hsf
     rw[eN,eF,eD,ev_ne ha]
     have hane:Hid (apF d.lg o.own≠0):=ha
     have hK5:=fun (w4:World) (p4:Option Addr) (c4:Nat) (hlg:LT w4 (fun j=>cc j = -3) L d.lg) (hc4:o.own.length<=c4) (hc4':c4<=9223372036854775807) (hp:ChAt w4 p4 o.own)=>lgAppend o.own p4 c4 hlg ok.lg hc4 hc4' hp
     rw[ev_ne ha] at hK5
     generalize apF d.lg o.own=E at hK5 hane ⊢
     clear eN eF eD ho0 ha
     replace htl:Hid _:=htl
     go_enter Tryz.func75,Tryz.ntmps75
     go_wp2_with (first
      | (go_at_call 102;refine K1.mono ?_;clear K1;rintro e w2 ⟨b,rfl,⟨v,qs,Mo,Do,tx,hq,hO⟩,h1,⟨D',X⟩,B2,hs2⟩;have K2:=dkClash X tx hq hO oko.own ok.tb (by omega) hat (hq24 qs hq).1 (hq24 qs hq).2;rw[hcl] at K2)
      | (go_at_call 103;refine K2.mono ?_;clear K2;rintro e w3 ⟨rfl,hb3⟩;have tx3:=tx.step hb3;have X3:=X.step hb3;have k0:=X3.c0;have k2:=tx3.c2;obtain⟨n3,ho3⟩:=tx3.own;have hln:=ho3.len Tryz.underlying173;rw[hO.size ho3 (chF_ris oko.own)] at hln;have K4:=dkList tx3 hO (chF_ris oko.own) hown20)
      | (go_at_call 104;refine K4.mono ?_;clear K4;rintro e w4 ⟨u,rfl,hrow,hb4⟩;obtain⟨p4,c4,rfl,hc4,hc4',-⟩:=lw_form hrow;have X4:=X3.step hb4;have m0:=X4.c0;have K5:=hK5 w4 p4 c4 X4.lg hc4 hc4' (chAt_own hrow).2)
      | (go_at_call 105;refine K5.mono ?_;clear K5;rintro e w5 ⟨rfl,hT5,b5⟩;have X5:=X4.logs hT5 b5))
     go_ret2
     have s3:=hb3.size
     have s4:=hb4.size
     have bt4:But F w w4:=((B2.mono (fun j _ e=>by rw[e];exact hM):But F w w2).step hb3).step hb4
     refine⟨rfl,⟨rc cc (-3) w4 w5,L,Tb,M,D',?_,htl.out,fun j hj=>?_⟩,bt4.then (rc_but hF (by decide) b5) (fun _ _=>id)⟩
     ·rw[hsf];exact X5
     ·rcases rc_F hF j hj with e|e
      ·exact .inl e
      ·exact .inr ⟨by omega,e.2⟩
end Go.Proofs.YtcjdoeclblhaeaaGreatDoor
namespace Go.Proofs.YtcjdoeclblhaeaaGreatDoor
open Go.RowKit Vs
theorem dface:DFace DT where
 but:=DT.but
 newOk w {_} h0 h1:=dkNew w h0 h1
 newNo w {_} h:=dkNewNo w h
 begin_ h ok sm _:=dkBegin h ok sm.ids
 get i k h ok sm _ hk:=dkGet i k h ok (sm.vs ok) hk
 range i lo hi h ok sm hF:=dkRange i lo hi h ok (sm.vs ok) hF
 put i k v h ok _ _ hk _:=dkPut i k v h ok hk
 drop i k h ok _ _ hk:=dkDrop i k h ok hk
 commit i h ok sm _ hz:=dkCommit i h ok sm.wt hz
 abort i h _ _ _:=dkAbort i h
 flush h ok _ _:=dkFlush h ok
 safe h _ _:=dkSafe h
 top h _ _:=dkTop h
 fail n h0 h1 h _ _ _:=dkFail n h0 h1 h
 crash n h0 h1 h ok sm _:=dkCrash n h0 h1 h ok sm.log
 all h ok sm:=dkAll h ok (sm.vs ok)
end Go.Proofs.YtcjdoeclblhaeaaGreatDoor
