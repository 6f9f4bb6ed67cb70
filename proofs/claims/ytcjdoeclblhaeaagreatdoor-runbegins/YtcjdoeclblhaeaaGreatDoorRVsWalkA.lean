/- -/
import Derived.Test.YtcjdoeclblhaeaaGreatDoorRMpHeld
import Derived.Test.YtcjdoeclblhaeaaGreatDoorRVsShelfB
import Derived.Shelf.SlSorted.Search
import Derived.Test.YtcjdoeclblhaeaaGreatDoorRAppOne
set_option maxHeartbeats 2000000
set_option maxRecDepth 100000
namespace Go.Proofs.YtcjdoeclblhaeaaGreatDoor
open Go.RowKit Vs
theorem checkSight (a:Int) (w:World):Calls Tryz.prog 130 #[.int .i64 a] w fun e w'=>e=.returned (ev (atF a))/\w'=w:=by
 unfold Vs.atF
 by_cases h1:a<0
 ·rw[if_pos (.inl h1)]
  go_enter Tryz.func130,Tryz.ntmps130
  go_wp2
  go_ret
  exact⟨rfl,rfl⟩
 by_cases h2:1000000<a
 ·rw[if_pos (.inr h2)]
  go_enter Tryz.func130,Tryz.ntmps130
  go_wp2
  go_ret
  exact⟨rfl,rfl⟩
 ·rw[if_neg (by omega)]
  go_enter Tryz.func130,Tryz.ntmps130
  go_wp2
  go_ret
  exact⟨rfl,rfl⟩
theorem between (k lo hi:ByteArray) (w:World):Calls Tryz.prog 131 #[.string k,.string lo,.string hi] w fun e w'=>e=.returned (.bool (btw lo hi k))/\w'=w:=by
 have g1:=leq_bl lo k
 unfold btw
 generalize bl k lo=c at g1 ⊢
 unfold bl
 cases c <;> cases h2:Op.bytesLess k.toList hi.toList
 all_goals
  go_enter Tryz.func131,Tryz.ntmps131
  go_wp2
  all_goals go_ret
  all_goals exact⟨rfl,rfl⟩
theorem last (p:Option Addr) (cap:Nat) (h:List Ver) (w:World) (hz:h.length<=1000) (hp:HiAt w p h) :
  Calls Tryz.prog 186 #[.slice p h.length cap] w fun e w'=>e=.returned (.int .i64 (lsN h))/\w'=w:=by
 by_cases h0:h.length=0
 ·rw[List.eq_nil_of_length_eq_zero h0,lsN_nil]
  go_enter Tryz.func186,Tryz.ntmps186
  go_wp2
  go_ret
  exact⟨rfl,rfl⟩
 ·obtain⟨x,hx,hn⟩:=lsN_at (h:=h) (by omega)
  obtain⟨b,rfl,hb,hc⟩:=hp (by omega)
  obtain⟨m,hm⟩:∃ m,h.length=m+1:=⟨h.length - 1,by omega⟩
  have c0:=(hc _ x hx).1
  rw[show h.length - 1=m from by omega,Nat.zero_add] at c0
  rw[hn,hm]
  rw[hm] at hz
  clear hx hn hc hp h0 hm
  go_enter Tryz.func186,Tryz.ntmps186
  go_wp2
  go_ret
  exact⟨rfl,rfl⟩
theorem upTo1 (ba bx b cap:Nat) (h:List Ver) (a:Int) (i:Nat) (x:Ver) (W:World) (hx:h[i]? = some x) (ha:W.cell? ⟨ba,0,none⟩=some (sl b h.length cap)) (hb:W.cell? ⟨bx,0,none⟩=some (.int .i64 a)) (hc:W.cell? ⟨b,i*3,none⟩=some (.int .i64 x.n)) :
  Calls Tryz.prog 224 (#[.int .i64 i] ++ #[.pointer (some ⟨ba,0,none⟩),.pointer (some ⟨bx,0,none⟩)]) W fun e w'=>e=.returned (.bool (decide (a<x.n))) /\ ∃ q,w'=W.drewN q:=by
 have hi:i<h.length:=(List.getElem?_eq_some_iff.1 hx).1
 have hiz:(i:Int)<(h.length:Int):=by omega
 clear hx
 go_enter Tryz.func224,Tryz.ntmps224
 go_wp2
 go_quiet (fail)
 all_goals go_wp2
 all_goals go_ret
 all_goals exact⟨by first|rfl|simp,_,rfl⟩
theorem upTo (p:Option Addr) (cap:Nat) (h:List Ver) (a:Int) (w:World) (hz:h.length<=1000) (hu:Up h) (hp:HiAt w p h) :
  Calls Tryz.prog 181 #[.slice p h.length cap,.int .i64 a] w fun e w'=>e=.returned (.int .i64 (upN h a))/\Below w.heap.size w w':=by
 obtain⟨W0,hW0⟩:∃ W0,W0=(w.alloc (.cells #[.slice p h.length cap] 200)).alloc (.cells #[.int .i64 a] 3):=⟨_,rfl⟩
 have hsize:W0.heap.size=w.heap.size+1+1:=by rw[hW0];simp
 have ca:W0.cell? ⟨w.heap.size,0,none⟩=some (.slice p h.length cap):=by rw[hW0];exact cell_alloc_sl _ (cell_new_sl w _ _)
 have cx:W0.cell? ⟨w.heap.size+1,0,none⟩=some (.int .i64 a):=by rw[hW0];have:=cell_new_sl (w.alloc (.cells #[.slice p h.length cap] 200)) (.int .i64 a) 3;rwa [World.size_alloc] at this
 have eg:∀ args w,(callFunc 224 args).run Tryz.prog w=.ok (.enter 224 args) w:=enters_of Tryz.func224 (by kernel_rfl) rfl
 have hB0:Below w.heap.size w W0:=by rw[hW0];exact ((Below.refl _ w).alloc (Nat.le_refl _) _).alloc (by simp) _
 have hp0:=hp.step hB0
 have hS:=Any.sort_Search Tryz.laySearch 224 #[.pointer (some ⟨w.heap.size,0,none⟩),.pointer (some ⟨w.heap.size+1,0,none⟩)] h.length (fun i=>match h[i]? with|some x=>decide (a<x.n)|none=>true) W0 eg (by omega)
  (fun m os i hi=>by
   obtain⟨x,hx⟩:∃ x,h[i]? = some x:=⟨h[i],List.getElem?_eq_getElem hi⟩
   obtain⟨b,rfl,hbl,hc⟩:=hp0 (by omega)
   have cc:=(hc i x hx).1
   rw[Nat.zero_add] at cc
   rw[hx]
   exact (upTo1 w.heap.size (w.heap.size+1) b cap h a i x _ hx (cell_grown (by simp[hsize];omega) ca m os) (cell_grown (by simp[hsize]) cx m os) (cell_grown hbl cc m os)).mono fun _ _ ⟨he,q,hq⟩=>⟨he,q,#[],by rw[hq,Sort.grow_empty]⟩)
  (fun i j hij hj hi=>by
   obtain⟨x,hx⟩:∃ x,h[i]? = some x:=⟨h[i],List.getElem?_eq_getElem (by omega)⟩
   obtain⟨y,hy⟩:∃ y,h[j]? = some y:=⟨h[j],List.getElem?_eq_getElem hj⟩
   rw[hx] at hi
   rw[hy]
   have h1:=upN_at hu a hx
   have h2:=upN_at hu a hy
   simp only [decide_eq_true_eq] at hi ⊢
   omega)
 rw[upN_cnt h a _ (fun i x hx=>by rw[hx])] at hS
 change Calls Tryz.prog 223 _ _ _ at hS
 clear ca cx hp hp0 hu
 generalize upN h a=r at hS ⊢
 go_enter Tryz.func181,Tryz.ntmps181
 go_wp2_with (go_at_call 223;rw[<- hW0];refine hS.mono ?_;rintro e w' ⟨rfl,q,os,rfl⟩)
 go_ret
 refine⟨rfl,?_⟩
 rw[<- hW0]
 exact hB0.trans (below_grown_sl w.heap.size W0 q os (by omega))
theorem vlH_0 {h:List Ver} {a:Int} (e:upN h a=0):vlH h a=none:=by rw[vlH,seeH_0 e]
theorem value (p:Option Addr) (cap:Nat) (h:List Ver) (a:Int) (w:World) (hz:h.length<=1000) (hu:Up h) (hp:HiAt w p h) :
  Calls Tryz.prog 132 #[.slice p h.length cap,.int .i64 a] w fun e w'=>e=.returned (.tuple #[.string ((vlH h a).getD ByteArray.empty),.bool (vlH h a).isSome])/\Below w.heap.size w w':=by
 have hS:=upTo p cap h a w hz hu hp
 by_cases e0:upN h a=0
 ·rw[vlH_0 e0]
  rw[e0] at hS
  clear e0 hp hu
  go_enter Tryz.func132,Tryz.ntmps132
  go_wp2_with (go_at_call 181;refine hS.mono ?_;rintro e w' ⟨rfl,hb⟩)
  go_ret2
  exact⟨rfl,hb⟩
 ·obtain⟨x,hx,hx2⟩:=seeH_at (h:=h) (a:=a) (by omega)
  have hle:=upN_le h a
  obtain⟨m,hm⟩:∃ m,upN h a=m+1:=⟨upN h a - 1,by omega⟩
  obtain⟨b,rfl,hbl,hc⟩:=hp (by omega)
  obtain⟨_,c1,c2⟩:=hc _ x hx
  rw[show upN h a - 1=m from by omega,Nat.zero_add] at c1 c2
  have hml:(m:Int)<(h.length:Int):=by omega
  have hV:vlH h a=if x.g=true then none else some x.v:=by rw[vlH,hx2]
  rw[hV]
  rw[hm] at hS
  clear hV hx hx2 hle hm e0 hc hp hu
  cases hg:x.g
  ·rw[hg] at c2
   rw[if_neg (by simp)]
   go_enter Tryz.func132,Tryz.ntmps132
   go_wp2_with (go_at_call 181;refine hS.mono ?_;rintro e w' ⟨rfl,hb⟩;have d1:=(hb.cell (p:=⟨b,m*3+1,none⟩) hbl).trans c1;have d2:=(hb.cell (p:=⟨b,m*3+2,none⟩) hbl).trans c2)
   go_ret2
   exact⟨rfl,hb⟩
  ·rw[hg] at c2
   rw[if_pos rfl]
   go_enter Tryz.func132,Tryz.ntmps132
   go_wp2_with (go_at_call 181;refine hS.mono ?_;rintro e w' ⟨rfl,hb⟩;have d2:=(hb.cell (p:=⟨b,m*3+2,none⟩) hbl).trans c2)
   go_ret2
   exact⟨rfl,hb⟩
end Go.Proofs.YtcjdoeclblhaeaaGreatDoor
namespace Go.Proofs.YtcjdoeclblhaeaaGreatDoor
open Go.RowKit Vs
theorem info_ver:(Tryz.prog.info? 263).map (fun i=>(i.zero,i.size,i.bytes))=some (some (.agg #[.int .i64 0,.string ByteArray.empty,.bool false]),3,32):=by kernel_rfl
abbrev vrV (x:Ver):Value:=.agg #[.int .i64 x.n,.string x.v,.bool x.g]
theorem three_new (V:World) (N:Nat) (a b c:Value) (t:TypeId) (hN:N=V.heap.size):∀ j u,[a,b,c][j]? = some u->(V.alloc (.cells #[a,b,c] t)).cell? ⟨N,j,none⟩=some u:=by
 subst hN
 intro j u hj
 match j,hj with
 | 0,hj=>simp at hj;subst hj;simp
 | 1,hj=>simp at hj;subst hj;simp
 | 2,hj=>simp at hj;subst hj;simp
theorem three_one (x:Ver):∀ u∈hiV [x],u.oneCell'=true:=hiV_one [x]
theorem grown_but {w V w1:World} {row:Option Nat} (h:Below w.heap.size w V) (hg:V.grownBy w1 row):But (fun j=>row=some j) w w1:=
 ⟨hg.os.trans h.os,hg.tape.trans h.tape,hg.output.trans h.output,Nat.le_trans h.size hg.size,fun k hk hF=>(hg.block k (Nat.lt_of_lt_of_le hk h.size) (fun e=>hF e.symm)).trans (h.block k hk)⟩
theorem appended {w V w1:World} {v0 v1:Value} {m e:Nat} {xs:List Value} (h:Below w.heap.size w V) (hown:w1.ownsRow 0 e 3 v1 (m+1) xs) (hg:V.grownBy w1 v0.ownBlock) (hat:v1.ownBlock=v0.ownBlock \/ v1.ownBlock=some V.heap.size) :
  ∃ g c,v1=sl g (m+1) c/\(v0.ownBlock=some g \/ w.heap.size<=g)/\But (fun j=>v0.ownBlock=some j) w w1:=by
 obtain⟨g,c,rfl⟩:=own_block hown (by omega)
 refine⟨g,c,rfl,?_,grown_but h hg⟩
 rcases hat with e|e
 ·exact .inl (e.symm.trans rfl)
 ·have:g=V.heap.size:=Option.some.inj e
  have:=h.size
  exact .inr (by omega)
theorem with_ (v0:Value) (h:List Ver) (x:Ver) (w:World) (hz:h.length<=1000) (hn:1<=x.n) (hown:w.ownsRow 0 263 3 v0 h.length (hiV h)) :
  Calls Tryz.prog 240 #[v0,vrV x] w fun e w'=>∃ g c,e=.returned (sl g (wiH h x).length c)/\w'.ownsRow 0 263 3 (sl g (wiH h x).length c) (wiH h x).length (hiV (wiH h x))/\(v0.ownBlock=some g \/ w.heap.size<=g)/\But (fun j=>v0.ownBlock=some j) w w':=by
 obtain⟨p,cap,hv0,hp⟩:∃ p cap,v0=.slice p h.length cap/\HiAt w p h:=by
  rcases hown.2 with ⟨h0,h1⟩|⟨g,c,cur,h0,_⟩
  ·rw[List.eq_nil_of_length_eq_zero h1];exact⟨none,0,h0,.nil _ _⟩
  ·subst h0;exact⟨some ⟨g,0,none⟩,c,rfl,fun _=>⟨g,rfl,own_lt hown,hiC_own hown⟩⟩
 subst hv0
 have hp1:=hp.step (below_al (below_self w) (.cells #[.int .i64 x.n,.string x.v,.bool x.g] 263))
 have hL:=fun n=>last p cap h ((w.alloc (.cells #[.int .i64 x.n,.string x.v,.bool x.g] 263)).drewN n) hz (hp1.step (below_drewN (below_self _) n))
 have hB:∀ n o,Below w.heap.size w (((w.alloc (.cells #[.int .i64 x.n,.string x.v,.bool x.g] 263)).drewN n).alloc o):=fun n o=>below_al (below_drewN (below_al (below_self w) _) n) o
 by_cases e1:lsN h=x.n
 ·have hne:h ≠ []:=fun e=>by rw[e,lsN_nil] at e1;omega
  obtain⟨r,z,hrz⟩:∃ r z,h=r ++ [z]:=by
   rcases List.eq_nil_or_concat h with e|⟨r,z,e⟩
   ·exact absurd e hne
   ·exact⟨r,z,by simpa using e⟩
  have g1:(lsN h==x.n)=true:=by simpa using e1
  rw[show wiH h x=r ++ [x] from by rw[wiH,if_pos e1,hrz];simp]
  have hlen:h.length=r.length+1:=by rw[hrz];simp
  obtain⟨g,c,hsl⟩:=own_block hown (by omega)
  rw[hlen] at hsl
  cases hsl
  obtain⟨_,hc1,hc2⟩:=own_cap hown
  have hpop:w.ownsRow 0 263 3 (sl g r.length cap) r.length (hiV r):=ownsRow_pop (hiV_len r) (last:=hiV [z]) (by rw[<- hiV_app,<- hrz,<- hlen];exact hown)
  rw[hlen] at hz hL hc1 ⊢
  clear e1 hp hp1 hne hrz hown hlen
  generalize lsN h=L at hL g1
  have hown1:=fun n o=>own_below hpop (hB n o)
  have hrl:r.length+1 - 1=r.length:=rfl
  go_enter Tryz.func240,Tryz.ntmps240
  go_wp2_with fail
  go_quiet ((go_at_call 186;exact Calls.quiet_of_same (hL _)))
  go_wp2_with (at_builtin;refine wpList_append_oneAt 200 263 3 32 _ Tryz.underlying200 info_ver rfl (by decide) (by decide) rfl _ _ rfl 0 _ r.length (hiV r) rfl (hown1 _ _) (Nat.zero_le _) (w.heap.size+1) (hiV [x]) rfl rfl (three_new _ _ _ _ _ _ (by simp)) (three_one x) (by omega) ?_;intro v1 w1 hown2 hgrow hat)
  go_ret
  obtain⟨g',c',rfl,h2,h3⟩:=appended (v0:=sl g r.length cap) (hB _ _) hown2 hgrow hat
  rw[<- hiV_app] at hown2
  exact⟨g',c',by simp,by simpa using hown2,h2,h3⟩
 ·have g1:(lsN h==x.n)=false:=by simpa using e1
  rw[show wiH h x=h ++ [x] from by rw[wiH,if_neg e1]]
  have hown1:=fun n o=>own_below hown (hB n o)
  clear e1 hp hp1 hown
  generalize lsN h=L at hL g1
  go_enter Tryz.func240,Tryz.ntmps240
  go_wp2_with fail
  go_quiet ((go_at_call 186;exact Calls.quiet_of_same (hL _)))
  go_wp2_with (at_builtin;refine wpList_append_oneAt 200 263 3 32 _ Tryz.underlying200 info_ver rfl (by decide) (by decide) rfl _ _ rfl 0 _ h.length (hiV h) rfl (hown1 _ _) (Nat.zero_le _) (w.heap.size+1) (hiV [x]) rfl rfl (three_new _ _ _ _ _ _ (by simp)) (three_one x) (by omega) ?_;intro v1 w1 hown2 hgrow hat)
  go_ret
  obtain⟨g,c,rfl,h2,h3⟩:=appended (hB _ _) hown2 hgrow hat
  rw[<- hiV_app] at hown2
  exact⟨g,c,by simp,by simpa using hown2,h2,h3⟩
end Go.Proofs.YtcjdoeclblhaeaaGreatDoor
namespace Go.Proofs.YtcjdoeclblhaeaaGreatDoor
open Go.RowKit Go.Maps Vs
theorem size_0 (k:ByteArray):k.toList=[]↔k.size<1:=by
 rw[Lib.toList_data,<- List.length_eq_zero_iff,Array.length_toList]
 show k.size=0↔_
 omega
theorem checkVersion (B:Nat) (x:Ver) (top:Int) (w:World) (hB:w.cell? ⟨B,1,none⟩=some (.int .i64 top)) :
  Calls Tryz.prog 239 #[.pointer (some ⟨B,0,none⟩),.string x.k,vrV x] w fun e w'=>e=.returned (ev (ptF x top))/\Below w.heap.size w w':=by
 obtain⟨k,v,n,g⟩:=x
 show Calls Tryz.prog 239 #[.pointer (some ⟨B,0,none⟩),.string k,.agg #[.int .i64 n,.string v,.bool g]] w fun e w'=>e=.returned (ev (if shF k v=0 then (if n<1 \/ 1000000<n then 1 else if n<top then 7 else 0) else 2))/\Below w.heap.size w w'
 by_cases h1:k.size<1
 ·rw[show shF k v=2 from if_pos (.inl h1),if_neg (by decide)]
  have g0:=(size_0 k).2 h1
  have g1:k.toList.isEmpty=true:=by rw[g0];rfl
  go_enter Tryz.func239,Tryz.ntmps239
  go_wp2
  go_ret
  exact⟨rfl,below_al (below_self _) _⟩
 have g0:¬ k.toList=[]:=fun e=>h1 ((size_0 k).1 e)
 have g1:k.toList.isEmpty=false:=by simpa using g0
 by_cases h2:24<k.size
 ·rw[show shF k v=2 from if_pos (.inr (.inl h2)),if_neg (by decide)]
  go_enter Tryz.func239,Tryz.ntmps239
  go_wp2
  go_ret
  exact⟨rfl,below_al (below_self _) _⟩
 by_cases h3:12<v.size
 ·rw[show shF k v=2 from if_pos (.inr (.inr h3)),if_neg (by decide)]
  go_enter Tryz.func239,Tryz.ntmps239
  go_wp2
  go_ret
  exact⟨rfl,below_al (below_self _) _⟩
 rw[show shF k v=0 from if_neg (by omega),if_pos rfl]
 by_cases h4:n<1
 ·rw[if_pos (.inl h4)]
  go_enter Tryz.func239,Tryz.ntmps239
  go_wp2
  go_ret
  exact⟨rfl,below_al (below_self _) _⟩
 by_cases h5:1000000<n
 ·rw[if_pos (.inr h5)]
  go_enter Tryz.func239,Tryz.ntmps239
  go_wp2
  go_ret
  exact⟨rfl,below_al (below_self _) _⟩
 rw[if_neg (by omega)]
 have hB1:(w.alloc (.cells #[.int .i64 n,.string v,.bool g] 263)).cell? ⟨B,1,none⟩=some (.int .i64 top):=(World.cell?_alloc_lt w _ ⟨B,1,none⟩ (World.block_lt_of_cell? _ _ hB)).trans hB
 by_cases h6:n<top
 ·rw[if_pos h6]
  go_enter Tryz.func239,Tryz.ntmps239
  go_wp2
  go_quiet (fail)
  go_wp2
  go_ret
  exact⟨rfl,below_drewN (below_al (below_self _) _) _⟩
 ·rw[if_neg h6]
  go_enter Tryz.func239,Tryz.ntmps239
  go_wp2
  go_quiet (fail)
  go_wp2
  go_ret
  exact⟨rfl,below_drewN (below_al (below_self _) _) _⟩
theorem new (w:World):Calls Tryz.prog 20 #[] w fun e w'=>∃ B,e=.returned (.pointer (some ⟨B,0,none⟩))/\Tab w' (fun j=>w.heap.size<=j/\j<w'.heap.size) B [] 0/\Below w.heap.size w w':=by
 have hmm:=@run_makeMap Tryz.prog
 go_enter Tryz.func20,Tryz.ntmps20
 go_wp2
 go_ret
 refine⟨w.heap.size+1,by simp,⟨⟨by omega,by simp⟩,by simp,by simp,w.heap.size,.map [],by simp,⟨⟨by omega,by simp;omega⟩,by omega,⟨0,(World.ownsMap_made _ _ _ _).alloc _⟩,fun s=>.inl ⟨rfl,look_empty _⟩,fun s t g n c n' c' e=>by rw[look_empty] at e;cases e⟩⟩,below_al (below_al (below_self _) _) _⟩
end Go.Proofs.YtcjdoeclblhaeaaGreatDoor
namespace Go.Proofs.YtcjdoeclblhaeaaGreatDoor
open Go.RowKit Go.Maps Vs
theorem zeroHist (w:World):(zeroValue 200).run Tryz.prog w=.ok (.slice none 0 0) w:=by kernel_rfl
theorem keyStr {s:ByteArray} (h:s.size<=maxLen):keyOf Tryz.prog 9 (.string s)=some (kS s):=by
 simp[keyOf,mapKey,Tryz.underlying9,h]
theorem Mp.mine {w:World} {F:Nat->Prop} {B M:Nat} {D:DataW Value} {l:List Ver} (h:Mp w F B M D l) (s:ByteArray):w.ownsRow 0 263 3 ((look D (kS s)).getD (.slice none 0 0)) (hs l s).length (hiV (hs l s)) ∧
  ∀ j,((look D (kS s)).getD (.slice none 0 0)).ownBlock=some j->(∃ n c,look D (kS s)=some (sl j n c))/\F j/\j≠B/\j≠M:=by
 rcases h.rows s with ⟨h1,h2⟩|⟨h1,g,c,h2,h3,h4,h5,h6⟩
 ·rw[h1,h2];exact⟨World.ownsRow_nil _ _ _ _,fun j e=>by cases e⟩
 ·rw[h2]
  exact⟨h6,fun j e=>by
   have:g=j:=Option.some.inj e
   subst this
   exact⟨⟨_,_,rfl⟩,h3,h4,h5⟩⟩
theorem add {F:Nat->Prop} {B:Nat} {l:List Ver} {top:Int} (x:Ver) (w:World) (hT:Tab w F B l top) (hO:OkT l top) (hl:l.length<=1000) (hF:∀ j,F j->j<w.heap.size) (hk:x.k.size<=maxLen) :
  Calls Tryz.prog 193 #[.pointer (some ⟨B,0,none⟩),.string x.k,vrV x] w fun e w'=>e=.returned (ev (ptF x top))/\Tab w' (Nw F w w') B (ptL l top x) (ptT top x)/\But F w w':=by
 have hB:=hT.lt
 have hb1:Below w.heap.size w (w.alloc (.cells #[.int .i64 x.n,.string x.v,.bool x.g] 263)):=below_al (below_self w) _
 have hC:=checkVersion B x top (w.alloc (.cells #[.int .i64 x.n,.string x.v,.bool x.g] 263)) ((hb1.cell (p:=⟨B,1,none⟩) hB).trans hT.c1)
 by_cases h0:ptF x top=0
 ·rw[show ptL l top x=vput l x from if_pos h0,show ptT top x=x.n from if_pos h0]
  rw[h0] at hC ⊢
  rw[ev_0] at hC
  go_enter Tryz.func193,Tryz.ntmps193
  go_wp2_with (go_at_call 239;refine hC.mono ?_;rintro e w2 ⟨rfl,hb2⟩)
  have hb:=below_via hb1 hb2
  have hT2:=hT.step hb
  obtain⟨M,D,m0,hM⟩:=hT2.mp
  have hN:w.heap.size<(w.alloc (.cells #[.int .i64 x.n,.string x.v,.bool x.g] 263)).heap.size:=by simp
  have n0:w2.cell? ⟨w.heap.size,0,none⟩=some (.int .i64 x.n):=(hb2.cell (p:=⟨w.heap.size,0,none⟩) hN).trans (by simp)
  have n1:w2.cell? ⟨w.heap.size,1,none⟩=some (.string x.v):=(hb2.cell (p:=⟨w.heap.size,1,none⟩) hN).trans (by simp)
  have n2:w2.cell? ⟨w.heap.size,2,none⟩=some (.bool x.g):=(hb2.cell (p:=⟨w.heap.size,2,none⟩) hN).trans (by simp)
  obtain⟨own2,sz2⟩:=hM.tight
  obtain⟨mine,at2⟩:=hM.mine x.k
  have hkey:=keyStr hk
  have hlen:(hs l x.k).length<=1000:=Nat.le_trans (len_hs l x.k) hl
  have hn1:=(ptF_ok h0).1.2.2.2.1
  have own2d:w2.drew.ownsMap Tryz.prog 9 anyE M l.length D:=own2
  have mined:w2.drew.ownsRow 0 263 3 ((look D (kS x.k)).getD (.slice none 0 0)) (hs l x.k).length (hiV (hs l x.k)):=mine
  have hbd:But F w w2.drew:=(But.below hb).drew
  have hszd:w.heap.size<=w2.drew.heap.size:=hb.size
  have hMB:M<w2.drew.heap.size:=hM.lt
  have hMne:=hM.ne
  have hBd:B<w2.drew.heap.size:=Nat.lt_of_lt_of_le hB hb.size
  have hNd:w.heap.size<w2.drew.heap.size:=Nat.lt_of_lt_of_le hN hb2.size
  have hc1:w2.drew.cell? ⟨B,1,none⟩=some (.int .i64 top):=hT2.c1
  have hf1:w2.drew.frozen? ⟨B,1,none⟩=false:=hT2.f1
  have hMd:Mp w2.drew F B M D l:=hM.step (below_self w2).drew
  have hP:Hid (hs (vput l x) x.k=wiH (hs l x.k) x /\ ∀ t,t≠x.k->hs (vput l x) t=hs l t):=⟨hs_put hO h0,fun t ht=>hs_put_other ht⟩
  have gB:F B:=hT2.gB
  have gM:F M:=hM.gM
  have hFM:M<w.heap.size:=hF M gM
  have hlk:=run_look 76 9 200 keyed Tryz.underlying76 (zeroHist w2.drew) M l.length D own2d (.string x.k) (kS x.k) hkey
  clear hC hT hb1 hb2 hT2 hM own2 mine h0 hO
  go_region_held3 (fun wy=>wy.cell? ⟨B,0,none⟩=some (.map (some M))/\wy.cell? ⟨w.heap.size,0,none⟩=some (.int .i64 x.n)/\wy.cell? ⟨w.heap.size,1,none⟩=some (.string x.v)/\wy.cell? ⟨w.heap.size,2,none⟩=some (.bool x.g))
   (first|exact⟨m0,n0,n1,n2⟩|exact⟨m3,k0,k1,k2⟩|exact⟨m4,r0,r1,r2⟩)
   (first
    | (go_at_call 240;refine (with_ _ (hs l x.k) x w2.drew hlen hn1 mined).mono ?_;rintro e w3 ⟨g,c,rfl,row3,at3,but3⟩;have m3:=(but3.cell (p:=⟨B,0,none⟩) hBd (fun e=>(at2 B e).2.2.1 rfl)).trans m0;have k0:=(but3.cell (p:=⟨w.heap.size,0,none⟩) hNd (fun e=>Nat.lt_irrefl _ (hF _ (at2 _ e).2.1))).trans n0;have k1:=(but3.cell (p:=⟨w.heap.size,1,none⟩) hNd (fun e=>Nat.lt_irrefl _ (hF _ (at2 _ e).2.1))).trans n1;have k2:=(but3.cell (p:=⟨w.heap.size,2,none⟩) hNd (fun e=>Nat.lt_irrefl _ (hF _ (at2 _ e).2.1))).trans n2;have own3:=map_but own2d but3 (fun e=>(at2 M e).2.2.2 rfl);obtain⟨w4,hput,own4,hg4⟩:=own3.update keyed Tryz.underlying76 (by unfold maxLen;omega) hkey (val:=sl g (wiH (hs l x.k) x).length c) (d:=.held (sl g (wiH (hs l x.k) x).length c)) (ps:=[]) rfl;have b4:But (fun j=>j=M) w3 w4:=⟨hg4.os,hg4.tape,hg4.output,hg4.size,fun k hk hF=>hg4.block k hk (fun e=>hF (Option.some.inj e))⟩;have hs3:=but3.size;have m4:=(b4.cell (p:=⟨B,0,none⟩) (by show B<w3.heap.size;omega) (fun e=>hMne e.symm)).trans m3;have r0:=(b4.cell (p:=⟨w.heap.size,0,none⟩) (by show w.heap.size<w3.heap.size;omega) (fun e=>by have e:w.heap.size=M:=e;omega)).trans k0;have r1:=(b4.cell (p:=⟨w.heap.size,1,none⟩) (by show w.heap.size<w3.heap.size;omega) (fun e=>by have e:w.heap.size=M:=e;omega)).trans k1;have r2:=(b4.cell (p:=⟨w.heap.size,2,none⟩) (by show w.heap.size<w3.heap.size;omega) (fun e=>by have e:w.heap.size=M:=e;omega)).trans k2))
  have c4:=(b4.cell (p:=⟨B,1,none⟩) (by show B<w3.heap.size;omega) (fun e=>hMne e.symm)).trans ((but3.cell (p:=⟨B,1,none⟩) hBd (fun e=>(at2 B e).2.2.1 rfl)).trans hc1)
  have f4:=(b4.frozen (p:=⟨B,1,none⟩) (by show B<w3.heap.size;omega) (fun e=>hMne e.symm)).trans ((but3.frozen (p:=⟨B,1,none⟩) hBd (fun e=>(at2 B e).2.2.1 rfl)).trans hf1)
  have hs4:=b4.size
  have gM3:¬ g=M:=fun e=>by
   rcases at3 with a3|a3
   ·exact (at2 g a3).2.2.2 e
   ·omega
  have b24:But (fun j=>((look D (kS x.k)).getD (.slice none 0 0)).ownBlock=some j \/ j=M) w2.drew w4:=(but3.mono (fun _ _=>Or.inl)).then b4 (fun _ _=>Or.inr)
  have hMp:=Mp.set (l':=vput l x) hMd hBd hP.out.1 (wiH_ne _ _) hP.out.2 (at3.imp (fun e=>(at2 g e).1) id) (own_but row3 b4 gM3) own4 b24 (fun j _ e=>e.elim (fun e=>.inr (at2 j e).1) .inl)
  have bw4:But F w w4:=hbd.then b24 (fun i _ e=>e.elim (fun e=>(at2 i e).2.1) (fun e=>by rw[e];exact gM))
  clear hMd hP row3 own4 b24 b4 but3 own3 own2d mined hlk hput
  go_wp2_with fail
  go_ret
  have b5:But (fun j=>j=B) w4 (w4.setCell ⟨B,1,none⟩ (.int .i64 x.n)):=But.setCell (F:=fun j=>j=B) (p:=⟨B,1,none⟩) (But.refl _ w4) (.inl rfl) _
  have hs5:=b5.size
  refine⟨rfl,⟨.inl gB,by go_simp,by go_simp,M,_,by go_simp,(hMp.notB b5).mono (fun j _ hj=>hj.imp id (fun hj=>⟨by omega,by omega⟩))⟩,bw4.setCell (.inl gB) _⟩
 ·rw[show ptL l top x=l from if_neg h0,show ptT top x=top from if_neg h0,ev_ne h0]
  rw[ev_ne h0] at hC
  go_enter Tryz.func193,Tryz.ntmps193
  go_wp2_with (go_at_call 239;refine hC.mono ?_;rintro e w2 ⟨rfl,hb2⟩)
  go_ret
  have hb:=below_via hb1 hb2
  exact⟨rfl,(hT.step hb).mono (fun j _ hj=>.inl hj),.below hb⟩
theorem put {F:Nat->Prop} {B:Nat} {l:List Ver} {top:Int} (k v:ByteArray) (n:Int) (w:World) (hT:Tab w F B l top) (hO:OkT l top) (hl:l.length<=1000) (hF:∀ j,F j->j<w.heap.size) (hk:k.size<=maxLen) :
  Calls Tryz.prog 149 #[.pointer (some ⟨B,0,none⟩),.string k,.string v,.int .i64 n] w fun e w'=>e=.returned (ev (ptF ⟨k,v,n,false⟩ top))/\Tab w' (Nw F w w') B (ptL l top ⟨k,v,n,false⟩) (ptT top ⟨k,v,n,false⟩)/\But F w w':=by
 have hA:=add ⟨k,v,n,false⟩ w hT hO hl hF hk
 generalize ptF ⟨k,v,n,false⟩ top=f at hA ⊢
 generalize ptL l top ⟨k,v,n,false⟩=l' at hA ⊢
 generalize ptT top ⟨k,v,n,false⟩=t' at hA ⊢
 go_enter Tryz.func149,Tryz.ntmps149
 go_wp2_with (go_at_call 193;refine hA.mono ?_;rintro e w2 ⟨rfl,h2,h3⟩)
 go_ret
 exact⟨rfl,h2,h3⟩
theorem drop {F:Nat->Prop} {B:Nat} {l:List Ver} {top:Int} (k:ByteArray) (n:Int) (w:World) (hT:Tab w F B l top) (hO:OkT l top) (hl:l.length<=1000) (hF:∀ j,F j->j<w.heap.size) (hk:k.size<=maxLen) :
  Calls Tryz.prog 148 #[.pointer (some ⟨B,0,none⟩),.string k,.int .i64 n] w fun e w'=>e=.returned (ev (ptF ⟨k,ByteArray.empty,n,true⟩ top))/\Tab w' (Nw F w w') B (ptL l top ⟨k,ByteArray.empty,n,true⟩) (ptT top ⟨k,ByteArray.empty,n,true⟩)/\But F w w':=by
 have hA:=add ⟨k,ByteArray.empty,n,true⟩ w hT hO hl hF hk
 generalize ptF ⟨k,ByteArray.empty,n,true⟩ top=f at hA ⊢
 generalize ptL l top ⟨k,ByteArray.empty,n,true⟩=l' at hA ⊢
 generalize ptT top ⟨k,ByteArray.empty,n,true⟩=t' at hA ⊢
 go_enter Tryz.func148,Tryz.ntmps148
 go_wp2_with (go_at_call 193;refine hA.mono ?_;rintro e w2 ⟨rfl,h2,h3⟩)
 go_ret
 exact⟨rfl,h2,h3⟩
end Go.Proofs.YtcjdoeclblhaeaaGreatDoor
namespace Go.Proofs.YtcjdoeclblhaeaaGreatDoor
open Go.RowKit Go.Maps Vs
theorem atF_ne {a:Int} (h:¬ atF a=0):atF a=1:=by
 unfold atF at h ⊢
 by_cases c:a<0 \/ 1000000<a
 ·rw[if_pos c]
 ·rw[if_neg c] at h;exact absurd rfl h
theorem get {F:Nat->Prop} {B:Nat} {l:List Ver} {top:Int} (k:ByteArray) (a:Int) (w:World) (hT:Tab w F B l top) (hO:OkT l top) (hl:l.length<=1000) (hk:k.size<=maxLen) :
  Calls Tryz.prog 247 #[.pointer (some ⟨B,0,none⟩),.string k,.int .i64 a] w fun e w'=>e=.returned (.tuple #[.string (gtS l k a),ev (gtF l k a)])/\Below w.heap.size w w':=by
 have hC:=checkSight a
 by_cases h0:atF a=0
 ·rw[show gtS l k a=(vget l k a).getD ByteArray.empty from if_pos h0,show gtF l k a=if (vget l k a).isSome=true then 0 else 4 from if_pos h0]
  rw[h0,ev_0] at hC
  obtain⟨M,D,m0,hM⟩:=hT.mp
  obtain⟨own2,_⟩:=hM.tight
  have hkey:=keyStr hk
  obtain⟨p,c,e1,_,_,hH⟩:=hM.got k
  have hlk:=run_look 76 9 200 keyed Tryz.underlying76 (zeroHist w) M l.length D own2 (.string k) (kS k) hkey
  rw[e1] at hlk
  have hV:=value p c (hs l k) a w (Nat.le_trans (len_hs l k) hl) (hs_up hO k) hH
  rw[<- vget_hs hO] at hV
  clear own2 hkey e1 hH hM hT h0
  cases e:vget l k a with
  | none=>
   rw[e] at hV
   go_enter Tryz.func247,Tryz.ntmps247
   go_wp2_with (first
    | (go_at_call 130;refine (hC _).mono ?_;rintro e w2 ⟨rfl,rfl⟩)
    | (go_at_call 132;refine hV.mono ?_;rintro e w2 ⟨rfl,hb⟩))
   go_ret2
   exact⟨rfl,hb⟩
  | some v=>
   rw[e] at hV
   go_enter Tryz.func247,Tryz.ntmps247
   go_wp2_with (first
    | (go_at_call 130;refine (hC _).mono ?_;rintro e w2 ⟨rfl,rfl⟩)
    | (go_at_call 132;refine hV.mono ?_;rintro e w2 ⟨rfl,hb⟩))
   go_ret2
   exact⟨rfl,hb⟩
 ·rw[show gtS l k a=ByteArray.empty from if_neg h0,show gtF l k a=1 from if_neg h0]
  rw[atF_ne h0,ev_ne (by decide)] at hC
  clear h0
  go_enter Tryz.func247,Tryz.ntmps247
  go_wp2_with (go_at_call 130;refine (hC _).mono ?_;rintro e w2 ⟨rfl,rfl⟩)
  go_ret2
  exact⟨rfl,below_self _⟩
end Go.Proofs.YtcjdoeclblhaeaaGreatDoor
