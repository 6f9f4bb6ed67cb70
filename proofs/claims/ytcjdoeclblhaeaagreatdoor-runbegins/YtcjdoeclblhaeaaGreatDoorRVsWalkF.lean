/- -/
import Derived.Test.YtcjdoeclblhaeaaGreatDoorRVsWalkA
import Derived.Test.YtcjdoeclblhaeaaGreatDoorRRowK
import Derived.Test.YtcjdoeclblhaeaaGreatDoorRVsMath
set_option maxHeartbeats 4000000
set_option maxRecDepth 100000
namespace Vs
structure Gth (l:List Ver) (lo hi:ByteArray) (a:Int) (left:ByteArray->Bool) (ps:List Pr):Prop where
 mem:∀ p,p∈ps↔btw lo hi p.1=true/\vget l p.1 a=some p.2/\left p.1=false
 once:ps.Pairwise (fun p q=>p.1≠q.1)
theorem vget_mem {l:List Ver} {k v:ByteArray} {a:Int} (h:vget l k a=some v):∃ x∈l,x.k=k:=by
 obtain⟨x,h1,_,_⟩:=vget_some.1 h
 obtain⟨h2,h3,_⟩:=see_some h1
 exact⟨x,h2,h3⟩
theorem Gth.len {l:List Ver} {lo hi:ByteArray} {a:Int} {left:ByteArray->Bool} {ps:List Pr} (h:Gth l lo hi a left ps):ps.length<=l.length:=by
 have:=nodup_le (ks:=ps.map (·.1)) (ms:=l.map (·.k)) (List.pairwise_map.2 h.once) (fun x hx=>by
  obtain⟨p,hp,rfl⟩:=List.mem_map.1 hx
  obtain⟨y,hy,e⟩:=vget_mem ((h.mem p).1 hp).2.1
  exact List.mem_map.2 ⟨y,hy,e⟩)
 simpa using this
theorem Gth.start {l:List Ver} {lo hi:ByteArray} {a:Int} {left:ByteArray->Bool} (h:∀ x∈l,left x.k=true):Gth l lo hi a left []:=
 ⟨fun p=>⟨fun h=>by simp at h,fun⟨_,h2,h3⟩=>by
  obtain⟨y,hy,e⟩:=vget_mem h2
  rw[<- e,h y hy] at h3;cases h3⟩,.nil⟩
theorem Gth.skip {l:List Ver} {lo hi:ByteArray} {a:Int} {left left':ByteArray->Bool} {ps:List Pr} (h:Gth l lo hi a left ps) {s:ByteArray} (hs:left s=true) (hl:∀ t,left' t=(left t && !decide (t=s))) (hn:btw lo hi s=false \/ vget l s a=none):Gth l lo hi a left' ps:=by
 refine⟨fun p=>?_,h.once⟩
 rw[h.mem p,hl]
 by_cases e:p.1=s
 ·rw[e,hs]
  rcases hn with hn|hn
  ·simp[hn]
  ·simp[hn]
 ·simp[e]
theorem Gth.more {l:List Ver} {lo hi:ByteArray} {a:Int} {left left':ByteArray->Bool} {ps:List Pr} (h:Gth l lo hi a left ps) {s v:ByteArray} (hs:left s=true) (hl:∀ t,left' t=(left t && !decide (t=s))) (hb:btw lo hi s=true) (hv:vget l s a=some v):Gth l lo hi a left' (ps ++ [(s,v)]):=by
 have hno:∀ p∈ps,p.1≠s:=fun p hp e=>by
  have:=((h.mem p).1 hp).2.2
  rw[e,hs] at this;cases this
 refine⟨fun p=>?_,List.pairwise_append.2 ⟨h.once,List.pairwise_singleton _ _,fun p hp q hq=>by rw[List.mem_singleton.1 hq];exact hno p hp⟩⟩
 rw[List.mem_append,h.mem p,hl,List.mem_singleton]
 by_cases e:p.1=s
 ·constructor
  ·rintro (⟨h1,h2,h3⟩|rfl)
   ·rw[e,hs] at h3;cases h3
   ·simp[hb,hv]
  ·rintro ⟨h1,h2,h3⟩
   refine .inr ?_
   rw[e,hv] at h2
   obtain⟨p1,p2⟩:=p
   simp at e h2
   rw[e,h2]
 ·constructor
  ·rintro (⟨h1,h2,h3⟩|rfl)
   ·exact⟨h1,h2,by simp[h3]⟩
   ·exact absurd rfl e
  ·rintro ⟨h1,h2,h3⟩
   exact .inl ⟨h1,h2,by simpa [e] using h3⟩
theorem Gth.all {l:List Ver} {top:Int} (hT:OkT l top) {lo hi:ByteArray} {a:Int} {left:ByteArray->Bool} {ps ys:List Pr} (h:Gth l lo hi a left ps) (hl:∀ t,left t=false) (hp:ys.Perm ps) (hs:ys.Pairwise (fun p q=>bl q.1 p.1=false)):ys=vrng l lo hi a:=by
 obtain⟨g1,g2⟩:=vrng_is hT lo hi a
 exact rises_uniq (sorted_rises hp hs h.once) g1 (fun p=>by rw[hp.mem_iff,h.mem p,g2 p,hl];simp)
end Vs
namespace Go.Proofs.YtcjdoeclblhaeaaGreatDoor
open Go.RowKit Go.Maps Vs
theorem infoPr:(Tryz.prog.info? 141).map (fun i=>(i.zero,i.size,i.bytes))=some (some (.agg #[.string ByteArray.empty,.string ByteArray.empty]),2,32):=by kernel_rfl
theorem two_new (V:World) (N:Nat) (a b:Value) (t:TypeId) (hN:N=V.heap.size):∀ j u,[a,b][j]? = some u->(V.alloc (.cells #[a,b] t)).cell? ⟨N,j,none⟩=some u:=by
 subst hN
 intro j u hj
 match j,hj with
 | 0,hj=>simp at hj;subst hj;simp
 | 1,hj=>simp at hj;subst hj;simp
theorem two_one (s v:ByteArray):∀ u∈prV [(s,v)],u.oneCell'=true:=by
 intro u hu
 simp[prV] at hu
 rcases hu with rfl|rfl <;> rfl
theorem own_grown {w w':World} {B e size n:Nat} {v:Value} {xs:List Value} {row:Option Nat} (h:w.ownsRow B e size v n xs) (hg:w.grownBy w' row) (hr:∀ k,row=some k->k<B):w'.ownsRow B e size v n xs:=by
 refine⟨h.1,?_⟩
 rcases h.2 with hn|⟨g,cap,cur,rfl,h1,hh,rest⟩
 ·exact .inl hn
 ·exact .inr ⟨g,cap,cur,rfl,h1,(hg.block g (Array.getElem?_eq_some_iff.1 hh).1 (fun e=>by have:=hr g e.symm;omega)).trans hh,rest⟩
theorem below_grownBy {w w':World} (h:Below w.heap.size w w'):w.grownBy w' none:=⟨h.os,h.tape,h.output,h.size,fun k hk _=>h.block k hk⟩
theorem sameS (s t:ByteArray):(kS t).sameKey (kS s)=decide (t=s):=by
 by_cases e:t=s
 ·subst e;simp[Lit.sameKey]
 ·have:¬ t.data=s.data:=fun g=>e (kS_inj (by rw[kS,kS,g]))
  simp[Lit.sameKey,e,this]
theorem atF_0 {a:Int} (h:atF a=0) (l:List Ver) (lo hi:ByteArray):rgS l lo hi a=vrng l lo hi a:=if_pos h
theorem rangeO {F:Nat->Prop} {B:Nat} {l:List Ver} {top:Int} (lo hi:ByteArray) (a:Int) (w:World) (hT:Tab w F B l top) (hO:OkT l top) (hl:l.length<=1000) :
  Calls Tryz.prog 96 #[.pointer (some ⟨B,0,none⟩),.string lo,.string hi,.int .i64 a] w fun e w'=>∃ (q:Option Addr) (cq:Nat),e=.returned (.tuple #[.slice q (rgS l lo hi a).length cq,ev (atF a)])/\w'.ownsRow w.heap.size 141 2 (.slice q (rgS l lo hi a).length cq) (rgS l lo hi a).length (prV (rgS l lo hi a))/\Below w.heap.size w w':=by
 have hC:=checkSight a
 by_cases h0:atF a=0
 ·rw[atF_0 h0,h0,ev_0]
  rw[h0,ev_0] at hC
  obtain⟨M,D,m0,hM⟩:=hT.mp
  obtain⟨own2,_⟩:=hM.tight
  have hMs:=hM.lt
  have hstart:Hid (Gth l lo hi a (fun t=>Maps.has D (kS t)) []):=Gth.start (fun x hx=>by
   rw[hM.has]
   have:¬ hs l x.k=[]:=fun e=>hs_nil.1 e x hx rfl
   simp[this])
  clear hT h0
  go_enter Tryz.func96,Tryz.ntmps96
  go_wp2_with (first
   | (go_at_call 130;refine (hC _).mono ?_;rintro e w2 ⟨rfl,hw⟩;have:=hw.symm;subst this)
   | (at_range;refine wpList_range_own _ rfl _ 76 rfl 9 200 keyed Tryz.underlying76 _ M l.length D rfl own2 ?_;intro w0 hrg0 hg0 hs0)
   | go_in)
  go_frame
  have hb0:Below w.heap.size w w0:=⟨hg0.os,hg0.tape,hg0.output,hg0.size,fun k hk=>hg0.block k hk (by simp)⟩
  go_loopw [11] (fun v wr=>∃ (left:Lit->Bool) (cnt:Nat) (ps:List Pr),wr.ranges Tryz.prog 9 anyE M w.heap.size l.length D left cnt/\wr.ownsRow (w.heap.size+1) 141 2 v ps.length (prV ps)/\Hid (Gth l lo hi a (fun t=>left (kS t)) ps)/\Below w.heap.size w wr/\w.heap.size+1<=wr.heap.size)
   (fun _ wr=>wr.rangeLeft M w.heap.size)
  case atStart=>exact⟨_,_,[],hrg0,World.ownsRow_nil _ _ _ _,hstart,hb0,by omega⟩
  case round=>
   obtain⟨left,cnt,ps,hrg,hown,hG,hb,hsw⟩:=hrel
   go_wp2_with (first
    | (at_next;refine wpList_next_str rfl _ rfl 9 Tryz.underlying9 M w.heap.size l.length D left cnt rfl hrg ?_ ?_)
    | go_in)
   ·intro hc0 hl0
    have hlen:=hG.out.len
    clear hstart hrg hrg0
    by_cases hn:ps.length=0
    ·have hp0:ps=[]:=List.eq_nil_of_length_eq_zero hn
     have hE:Hid ([]=vrng l lo hi a):=Gth.all hO hG.out (fun t=>hl0 _) (by rw[hp0]) .nil
     obtain⟨p,cp,rfl⟩:=own_form hown
     rw[hn] at *
     have hPs:Hid (ps=[]):=hp0
     clear hG hp0
     go_wp2_with (go_at_call 133;refine (sortNone _ _ _ _).mono ?_;rintro e w3 ⟨rfl,hw⟩;have:=hw.symm;subst this)
     go_ret2
     exact⟨p,cp,by rw[<- hE.out];rfl,by rw[<- hE.out];exact ownMono (B:=w.heap.size+1) (by omega) (by rw[hPs.out] at hown;exact hown),hb⟩
    ·obtain⟨g,c,rfl⟩:=own_block hown (by omega)
     have hS:=sortPairs (w.heap.size+1) g c ps wr hown (own_lt hown) (by omega)
     have hge:w.heap.size+1<=g:=(hown.lt g rfl).1
     go_wp2_with (go_at_call 133;refine hS.mono ?_;rintro e w3 ⟨rfl,ys,hp,hs,hat,hg3⟩)
     go_ret2
     have hE:=Gth.all hO hG.out (fun t=>hl0 _) hp hs
     subst hE
     exact⟨some ⟨g,0,none⟩,c,by rw[hp.length_eq];rfl,by rw[hp.length_eq];exact ownMono (B:=w.heap.size+1) (by omega) hat,hb.grown hg3 hb.size (fun j hj=>by cases hj;omega)⟩
   ·intro s v w1 cnt1 hsz hlk hlook hrg1 hlt hg1 hs1 hen
    have hb1:Below w.heap.size w w1:=hb.grown hg1 hb.size (fun j hj=>by cases hj;exact Nat.le_refl _)
    have own1:=own_grown hown hg1 (fun k hk=>by cases hk;omega)
    obtain⟨hne,g,c,rfl,hc1,hc2,hgl,hHC⟩:=(hM.step hb1).found hlook
    have hBt:=between s lo hi
    have hst:Hid (∀ t,(fun z=>left z && !z.sameKey (kS s)) (kS t)=((fun t=>left (kS t)) t && !decide (t=s))):=fun t=>by
     show (left (kS t) && !(kS t).sameKey (kS s))=_
     rw[sameS]
    have hlm:Hid ((fun t=>left (kS t)) s=true):=hlk
    cases hbt:btw lo hi s
    ·rw[hbt] at hBt
     have hG2:Hid (Gth l lo hi a (fun t=>(fun z=>left z && !z.sameKey (kS s)) (kS t)) ps):=hG.out.skip hlm.out hst.out (.inl hbt)
     clear hG hst hlm hHC hlook hbt hstart
     go_wp2_with (go_at_call 131;refine (hBt _).mono ?_;rintro e w3 ⟨rfl,hw⟩;have:=hw.symm;subst this)
     exact⟨⟨_,cnt1,ps,hrg1,own1,hG2,hb1,by omega⟩,by rw[hrg1.left_eq,hrg.left_eq];exact hlt⟩
    ·rw[hbt] at hBt
     have hV:=value (some ⟨g,0,none⟩) c (hs l s) a w1 (Nat.le_trans (len_hs l s) hl) (hs_up hO s) (fun _=>⟨g,rfl,hgl,hHC⟩)
     rw[<- vget_hs hO] at hV
     cases hvg:vget l s a with
     | none=>
      rw[hvg] at hV
      have hG2:Hid (Gth l lo hi a (fun t=>(fun z=>left z && !z.sameKey (kS s)) (kS t)) ps):=hG.out.skip hlm.out hst.out (.inr hvg)
      clear hG hst hlm hHC hlook hbt hstart hvg
      go_wp2_with (first
       | (go_at_call 131;refine (hBt _).mono ?_;rintro e w3 ⟨rfl,hw⟩;have:=hw.symm;subst this)
       | (go_at_call 132;refine hV.mono ?_;rintro e w3 ⟨rfl,hb3⟩))
      have hg3:=below_grownBy hb3
      have hrg3:=hrg1.kept hg3 (by simp) (by simp)
      exact⟨⟨_,cnt1,ps,hrg3,own_grown own1 hg3 (fun k hk=>by cases hk),hG2,hb1.trans (hb3.mono (by omega)),by have:=hb3.size;omega⟩,by rw[hrg3.left_eq,hrg.left_eq];exact hlt⟩
     | some vv=>
      rw[hvg] at hV
      have hG2:Hid (Gth l lo hi a (fun t=>(fun z=>left z && !z.sameKey (kS s)) (kS t)) (ps ++ [(s,vv)])):=hG.out.more hlm.out hst.out hbt hvg
      have hlen:=hG.out.len
      clear hG hst hlm hHC hlook hbt hstart hvg
      go_wp2_with (first
       | (go_at_call 131;refine (hBt _).mono ?_;rintro e w3 ⟨rfl,hw⟩;have:=hw.symm;subst this)
       | (go_at_call 132;refine hV.mono ?_;rintro e w3 ⟨rfl,hb3⟩;have hg3:=below_grownBy hb3;have hrg3:=hrg1.kept hg3 (by simp) (by simp);have own3:=own_grown own1 hg3 (fun k hk=>by cases hk);have hs3:=hb3.size)
       | (at_builtin;refine wpList_append_one 138 141 2 32 _ Tryz.underlying138 infoPr rfl (by decide) (by decide) rfl _ _ rfl (w.heap.size+1) _ ps.length (prV ps) rfl (own3.alloc _) (by simp;omega) w3.heap.size (prV [(s,vv)]) rfl rfl (two_new _ _ _ _ _ rfl) (two_one s vv) (by omega) ?_;intro v4 w4 own4 hg4))
      have hb4:Below w.heap.size w w4:=((hb1.trans (hb3.mono (by omega))).alloc (by omega) _).grown hg4 (by simp;omega) (fun j hj=>by have:=(own3.lt j hj).1;omega)
      have hrg4:=(hrg3.alloc _).kept hg4 (fun e=>by have:=(own3.lt M e.symm).1;omega) (fun e=>by have:=(own3.lt _ e.symm).1;omega)
      rw[<- prV_app] at own4
      have hs4:=hg4.size
      simp at hs4
      exact⟨⟨_,cnt1,ps ++ [(s,vv)],hrg4,by simpa using own4,hG2,hb4,by omega⟩,by rw[hrg4.left_eq,hrg.left_eq];exact hlt⟩
 ·rw[show rgS l lo hi a=[] from if_neg h0,atF_ne h0,ev_ne (by decide)]
  rw[atF_ne h0,ev_ne (by decide)] at hC
  clear h0
  go_enter Tryz.func96,Tryz.ntmps96
  go_wp2_with (go_at_call 130;refine (hC _).mono ?_;rintro e w2 ⟨rfl,rfl⟩)
  go_ret2
  exact⟨none,0,rfl,World.ownsRow_nil _ _ _ _,below_self _⟩
theorem range {F:Nat->Prop} {B:Nat} {l:List Ver} {top:Int} (lo hi:ByteArray) (a:Int) (w:World) (hT:Tab w F B l top) (hO:OkT l top) (hl:l.length<=1000) :
  Calls Tryz.prog 96 #[.pointer (some ⟨B,0,none⟩),.string lo,.string hi,.int .i64 a] w fun e w'=>∃ (q:Option Addr) (cq:Nat),e=.returned (.tuple #[.slice q (rgS l lo hi a).length cq,ev (atF a)])/\PrIn (fun j=>w.heap.size<=j) w' q (rgS l lo hi a)/\Below w.heap.size w w':=by
 refine (rangeO lo hi a w hT hO hl).mono ?_
 rintro e w' ⟨q,cq,rfl,hown,hb⟩
 refine⟨q,cq,rfl,fun hp=>?_,hb⟩
 obtain⟨b,off,e1,e2,e3⟩:=(prAt_own hown).2 hp
 subst e1
 exact⟨b,off,rfl,e2,(hown.lt b rfl).1,e3⟩
end Go.Proofs.YtcjdoeclblhaeaaGreatDoor
namespace Go.Proofs.YtcjdoeclblhaeaaGreatDoor
open Go.RowKit Go.Maps Vs
theorem touchedOne {F:Nat->Prop} {B:Nat} {l:List Ver} {top:Int} (lo:ByteArray) (a:Int) (w:World) (hT:Tab w F B l top) (hO:OkT l top) (hl:l.length<=1000) (hk:lo.size<9223372036854775807) (h0:atF a=0) :
  Calls Tryz.prog 140 #[.pointer (some ⟨B,0,none⟩),.string lo,.string (kz lo),.int .i64 a] w fun e w'=>e=.returned (.tuple #[.bool (vtch l lo (kz lo) a),.nilIface])/\Below w.heap.size w w':=by
 have hC:=checkSight a
 rw[h0,ev_0] at hC
 have ha:0<=a:=by
  unfold atF at h0
  by_cases c:a<0 \/ 1000000<a
  ·rw[if_pos c] at h0;cases h0
  ·omega
 have hV:vtch l lo (kz lo) a=decide (a<lsN (hs l lo)):=by
  have:=vtch_hs hO lo (kz lo) a ha
  rw[Bool.eq_iff_iff,this,decide_eq_true_eq]
  constructor
  ·rintro ⟨s,h1,h2⟩
   rw[(btw_kz lo s).1 h1] at h2;exact h2
  ·intro h;exact⟨lo,(btw_kz lo lo).2 rfl,h⟩
 rw[hV]
 obtain⟨M,D,m0,hM⟩:=hT.mp
 obtain⟨own2,_⟩:=hM.tight
 have hkey:=keyStr (show lo.size<=maxLen by unfold maxLen;omega)
 obtain⟨p,c,e1,_,_,hH⟩:=hM.got lo
 have hlk:=run_look 76 9 200 keyed Tryz.underlying76 (zeroHist w) M l.length D own2 (.string lo) (kS lo) hkey
 rw[e1] at hlk
 have hL:=last p c (hs l lo) w (Nat.le_trans (len_hs l lo) hl) hH
 generalize lsN (hs l lo)=N at hL ⊢
 rw[<- kz_add]
 clear own2 hkey e1 hH hM hT h0 hV
 go_enter Tryz.func140,Tryz.ntmps140
 go_wp2_with (first
  | (go_at_call 130;refine (hC _).mono ?_;rintro e w2 ⟨rfl,rfl⟩)
  | (go_at_call 186;refine hL.mono ?_;rintro e w2 ⟨rfl,rfl⟩))
 go_ret2
 exact⟨rfl,below_self _⟩
theorem touched {F:Nat->Prop} {B:Nat} {l:List Ver} {top:Int} (lo hi:ByteArray) (a:Int) (w:World) (hT:Tab w F B l top) (hO:OkT l top) (hl:l.length<=1000) (hk:lo.size<9223372036854775807) :
  Calls Tryz.prog 140 #[.pointer (some ⟨B,0,none⟩),.string lo,.string hi,.int .i64 a] w fun e w'=>e=.returned (.tuple #[.bool (tcS l lo hi a),ev (atF a)])/\Below w.heap.size w w':=by
 have hC:=checkSight a
 by_cases hz:hi=kz lo
 ·subst hz
  by_cases h0:atF a=0
  ·rw[show tcS l lo (kz lo) a=vtch l lo (kz lo) a from if_pos h0,h0,ev_0]
   exact touchedOne lo a w hT hO hl hk h0
  ·rw[show tcS l lo (kz lo) a=false from if_neg h0,atF_ne h0,ev_ne (by decide)]
   rw[atF_ne h0,ev_ne (by decide)] at hC
   clear h0
   go_enter Tryz.func140,Tryz.ntmps140
   go_wp2_with (go_at_call 130;refine (hC _).mono ?_;rintro e w2 ⟨rfl,rfl⟩)
   go_ret2
   exact⟨rfl,below_self _⟩
 have hzn:(hi.toList==(lo++({ data:=#[0] }:ByteArray)).toList)=false:=by rw[kz_add,beq_str];simpa using hz
 clear hz
 by_cases h0:atF a=0
 ·have ha:0<=a:=by
   unfold atF at h0
   by_cases c:a<0 \/ 1000000<a
   ·rw[if_pos c] at h0;cases h0
   ·omega
  rw[show tcS l lo hi a=vtch l lo hi a from if_pos h0,h0,ev_0]
  rw[h0,ev_0] at hC
  obtain⟨M,D,m0,hM⟩:=hT.mp
  obtain⟨own2,_⟩:=hM.tight
  have hMs:=hM.lt
  have hstart:Hid (∀ t,btw lo hi t=true->Maps.has D (kS t)=false->lsN (hs l t)<=a):=fun t _ h=>by
   rw[hM.has] at h
   have:hs l t=[]:=by simpa using h
   rw[this,lsN_nil];omega
  have hvt:Hid _:=vtch_hs hO lo hi a ha
  generalize vtch l lo hi a=T at hvt ⊢
  clear hT h0
  go_enter Tryz.func140,Tryz.ntmps140
  go_wp2_with (first
   | (go_at_call 130;refine (hC _).mono ?_;rintro e w2 ⟨rfl,hw⟩;have:=hw.symm;subst this)
   | (at_range;refine wpList_range_own _ rfl _ 76 rfl 9 200 keyed Tryz.underlying76 _ M l.length D rfl own2 ?_;intro w0 hrg0 hg0 hs0)
   | go_in)
  go_frame
  have hb0:Below w.heap.size w w0:=⟨hg0.os,hg0.tape,hg0.output,hg0.size,fun k hk=>hg0.block k hk (by simp)⟩
  go_loopw [8] (fun _ wr=>∃ (left:Lit->Bool) (cnt:Nat),wr.ranges Tryz.prog 9 anyE M w.heap.size l.length D left cnt/\Hid (∀ t,btw lo hi t=true->left (kS t)=false->lsN (hs l t)<=a)/\Below w.heap.size w wr)
   (fun _ wr=>wr.rangeLeft M w.heap.size)
  case atStart=>exact⟨_,_,hrg0,hstart,hb0⟩
  case round=>
   obtain⟨left,cnt,hrg,hN,hb⟩:=hrel
   go_wp2_with (first
    | (at_next;refine wpList_next_str rfl _ rfl 9 Tryz.underlying9 M w.heap.size l.length D left cnt rfl hrg ?_ ?_)
    | go_in)
   ·intro hc0 hl0
    have hE:Hid (T=false):=by
     show _=_
     cases e:T
     ·rfl
     ·obtain⟨t,h1,h2⟩:=hvt.out.1 e
      exact absurd h2 (Int.not_lt.2 (hN.out t h1 (hl0 _)))
    clear hN hstart hrg hrg0 hvt
    go_wp2
    go_ret2
    exact⟨by rw[hE.out];rfl,hb⟩
   ·intro s v w1 cnt1 hsz hlk hlook hrg1 hlt hg1 hs1 hen
    have hb1:Below w.heap.size w w1:=hb.grown hg1 hb.size (fun j hj=>by cases hj;exact Nat.le_refl _)
    obtain⟨hne,g,c,rfl,hc1,hc2,hgl,hHC⟩:=(hM.step hb1).found hlook
    have hBt:=between s lo hi
    have hLs:=last (some ⟨g,0,none⟩) c (hs l s) w1 (Nat.le_trans (len_hs l s) hl) (fun _=>⟨g,rfl,hgl,hHC⟩)
    have hN2:∀ (_:btw lo hi s=false \/ lsN (hs l s)<=a),∀ t,btw lo hi t=true->(fun z=>left z && !z.sameKey (kS s)) (kS t)=false->lsN (hs l t)<=a:=fun hor t h1 h2=>by
     have h2:(left (kS t) && !(kS t).sameKey (kS s))=false:=h2
     rw[sameS] at h2
     by_cases e:t=s
     ·subst e
      rcases hor with g|g
      ·rw[g] at h1;cases h1
      ·exact g
     ·exact hN.out t h1 (by simpa [e] using h2)
    cases hbt:btw lo hi s
    ·rw[hbt] at hBt
     have hN3:Hid _:=hN2 (.inl hbt)
     clear hN hN2 hHC hlook hbt hstart
     go_wp2_with (go_at_call 131;refine (hBt _).mono ?_;rintro e w3 ⟨rfl,hw⟩;have:=hw.symm;subst this)
     exact⟨⟨_,cnt1,hrg1,hN3,hb1⟩,by rw[hrg1.left_eq,hrg.left_eq];exact hlt⟩
    ·rw[hbt] at hBt
     by_cases hgt:a<lsN (hs l s)
     ·have hE:Hid (T=true):=hvt.out.2 ⟨s,hbt,hgt⟩
      clear hN hN2 hHC hlook hbt hstart hvt
      generalize lsN (hs l s)=L at hLs hgt
      go_wp2_with (first
       | (go_at_call 131;refine (hBt _).mono ?_;rintro e w3 ⟨rfl,hw⟩;have:=hw.symm;subst this)
       | (go_at_call 186;refine hLs.mono ?_;rintro e w3 ⟨rfl,hw⟩;have:=hw.symm;subst this))
      go_ret2
      exact⟨by rw[hE.out];rfl,hb1⟩
     ·have hN3:Hid _:=hN2 (.inr (Int.not_lt.1 hgt))
      clear hN hN2 hHC hlook hbt hstart hvt
      generalize lsN (hs l s)=L at hLs hgt
      go_wp2_with (first
       | (go_at_call 131;refine (hBt _).mono ?_;rintro e w3 ⟨rfl,hw⟩;have:=hw.symm;subst this)
       | (go_at_call 186;refine hLs.mono ?_;rintro e w3 ⟨rfl,hw⟩;have:=hw.symm;subst this))
      exact⟨⟨_,cnt1,hrg1,hN3,hb1⟩,by rw[hrg1.left_eq,hrg.left_eq];exact hlt⟩
 ·rw[show tcS l lo hi a=false from if_neg h0,atF_ne h0,ev_ne (by decide)]
  rw[atF_ne h0,ev_ne (by decide)] at hC
  clear h0
  go_enter Tryz.func140,Tryz.ntmps140
  go_wp2_with (go_at_call 130;refine (hC _).mono ?_;rintro e w2 ⟨rfl,rfl⟩)
  go_ret2
  exact⟨rfl,below_self _⟩
end Go.Proofs.YtcjdoeclblhaeaaGreatDoor
