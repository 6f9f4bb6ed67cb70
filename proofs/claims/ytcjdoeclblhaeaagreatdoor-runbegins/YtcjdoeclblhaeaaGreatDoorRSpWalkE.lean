/- -/
import Derived.Test.YtcjdoeclblhaeaaGreatDoorRSpWalkA
import Derived.Test.YtcjdoeclblhaeaaGreatDoorRShelf
import Derived.Sort.OwnSortedInts
import Derived.Laws.EntriesVeiled
import Derived.Test.YtcjdoeclblhaeaaGreatDoorRRnA
import Derived.Test.YtcjdoeclblhaeaaGreatDoorRAdBase
import Derived.Test.YtcjdoeclblhaeaaGreatDoorRAppOne
set_option maxHeartbeats 8000000
set_option maxRecDepth 100000
namespace Go.Proofs.YtcjdoeclblhaeaaGreatDoor.Sa
open Go.RowKit Go.Sort
abbrev Ls:=Option Addr×Nat×List Bur.Sp
def cat (ls:List Ls):List Bur.Sp:=ls.flatMap (·.2.2)
def slV (x:Ls):Value:=.slice x.1 x.2.2.length x.2.1
def LsAt (w:World) (L:Nat) (ls:List Ls):Prop:=L<w.heap.size /\ ∀ j x,ls[j]? = some x->w.cell? ⟨L,j,none⟩=some (slV x)/\SpAt w x.1 x.2.2/\x.2.2.length<=64
def inV (zs:List Int):List Value:=zs.map (Value.int .i64)
theorem inV_app (a b:List Int):inV (a++b)=inV a++inV b:=by simp[inV]
theorem inAt_own {w:World} {B n cap:Nat} {p:Option Addr} {zs:List Int} (h:w.ownsRow B 3 1 (.slice p n cap) zs.length (inV zs)):n=zs.length/\InAt w p zs:=by
 rcases h.2 with ⟨h0,h1⟩|⟨g,cap',cur,h0,_,hg,_,_,_,_⟩
 ·cases h0;exact⟨h1.symm,fun hp=>by omega⟩
 ·cases h0
  refine⟨rfl,fun _=>⟨g,0,rfl,(Array.getElem?_eq_some_iff.1 hg).1,fun i hi=>?_⟩⟩
  rw[Nat.zero_add,h.cellAt i (by omega)]
  simp[inV,List.getElem?_eq_getElem hi]
theorem edg_take {l:List Bur.Sp} {k:Nat} (h:k<l.length):Bur.edg (l.take (k+1))=Bur.edg (l.take k) ++ [lo l k,hi l k+1]:=by
 rw[List.take_add_one,List.getElem?_eq_getElem h,Bur.edg_append]
 simp[Bur.edg,lo,hi,List.getD,List.getElem?_eq_getElem h]
theorem edges (L m:Nat) (ls:List Ls) (w:World) (hm:ls.length<=4) (hL:LsAt w L ls) (hA:Bur.InA (cat ls)) :
  Calls Tryz.prog 316 #[.slice (some ⟨L,0,none⟩) ls.length m] w fun e w'=>∃ (q:Option Addr) (cap:Nat),e=.returned (.slice q (Bur.srt (Bur.edg (cat ls))).length cap)/\InAt w' q (Bur.srt (Bur.edg (cat ls)))/\Below w.heap.size w w':=by
 obtain⟨i0,hin,hz0,hz1,hz2⟩:=info_parts info_int
 go_enter Tryz.func316,Tryz.ntmps316
 go_wp2
 go_loopw [3,10] (fun v i wr=>∃ (j:Nat),j<=ls.length/\i=.int .i64 j/\Hid ((Bur.edg (cat (ls.take j))).length<=j*128)/\wr.ownsRow w.heap.size 3 1 v (Bur.edg (cat (ls.take j))).length (inV (Bur.edg (cat (ls.take j))))/\Below w.heap.size w wr) (fun _ i _=>ls.length - (intOf i).toNat)
 case atStart=>exact⟨0,by omega,rfl,by show _<=_;simp[cat,Bur.edg],World.ownsRow_nil _ _ _ _,below_self _⟩
 case round=>
  obtain⟨j,hj,rfl,hlen,hown,hb⟩:=hrel
  have hsz:=hb.size
  by_cases hlt:j<ls.length
  ·have hlt':(j:Int)<(ls.length:Int):=by omega
   obtain⟨x,hx⟩:∃ x,ls[j]? = some x:=⟨_,List.getElem?_eq_getElem hlt⟩
   have hLw:=hL.2 j x hx
   obtain⟨p,cp,l⟩:=x
   have c0:wr.cell? ⟨L,j,none⟩=some (.slice p l.length cp):=(hb.cell (p:=⟨L,j,none⟩) hL.1).trans hLw.1
   have hs:SpAt w p l:=hLw.2.1
   have hl:l.length<=64:=hLw.2.2
   have hcat:Hid (cat (ls.take (j+1))=cat (ls.take j)++l):=by
    show _=_
    rw[List.take_add_one,hx]
    simp[cat]
   have hAl:Bur.InA l:=fun s hs=>hA s (by
    have:(p,cp,l)∈ls:=List.mem_of_getElem? hx
    simp only [cat,List.mem_flatMap]
    exact⟨_,this,hs⟩)
   generalize hE:Bur.edg (cat (ls.take j))=E0 at *
   have HE:Hid (Bur.edg (cat (ls.take j))=E0):=hE
   have hlen':=hlen.out
   clear hE hLw hL hA hlen hx
   go_wp2
   go_loopw [3,16] (fun v i wy=>∃ (k:Nat),k<=l.length/\i=.int .i64 k/\wy.ownsRow w.heap.size 3 1 v (E0.length+2*k) (inV (E0++Bur.edg (l.take k)))/\Below w.heap.size w wy) (fun _ i _=>l.length - (intOf i).toNat)
   case atStart=>exact⟨0,by omega,rfl,by simpa [Bur.edg] using hown,hb⟩
   case round=>
    obtain⟨k,hk,rfl,hown2,hb3⟩:=hrel
    have hsz3:=hb3.size
    by_cases hlt2:k<l.length
    ·have hlt2':(k:Int)<(l.length:Int):=by omega
     obtain⟨b,off,rfl,hbl,hc⟩:=hs (by omega)
     have hcb:=bcell hb3
     have c1:wr.cell? ⟨b,off+k*2,none⟩=some (.int .i64 (lo l k)):=(hcb.1 _ _ hbl).trans (hc k hlt2).1
     have c2:wr.cell? ⟨b,off+k*2+1,none⟩=some (.int .i64 (hi l k)):=(hcb.1 _ _ hbl).trans (hc k hlt2).2
     have ok:=hAl (lo l k,hi l k) (by
      have:(lo l k,hi l k)∈l.drop k:=by rw[drop_sp hlt2];simp
      exact List.mem_of_mem_drop this)
     simp only at ok
     have he:Hid _:=edg_take hlt2
     clear hc hcb hs hAl c0
     go_wp2_with (at_builtin;refine wpList_append_own _ rfl _ _ 291 rfl w.heap.size 3 i0 (.int .i64 0) 1 8 Tryz.underlying291 hin hz0 hz1 hz2 rfl (by decide) _ _ _ rfl ((hown2.alloc _).alloc _) ⟨wr.heap.size+1,0,none⟩ 2 2 [.int .i64 (lo l k),.int .i64 (hi l k+1)] rfl rfl ?c1 ?c2 ?c3 ?c4 ?c5 ?_)
     case c1=>
      intro j u hj
      match j,hj with
      | 0,hj=>simp at hj;subst hj;simp[Addr.add]
      | 1,hj=>simp at hj;subst hj;simp[Addr.add]
     case c2=>intro u hu;simp at hu;rcases hu with rfl|rfl <;> rfl
     case c3=>unfold maxLen;omega
     case c4=>omega
     case c5=>simp;omega
     intro v' w2 hown3 hgrow _
     have hb4:Below w.heap.size w w2:=(below_al (below_al hb3 _) _).grown hgrow (by simp;omega) (fun j hj=>(hown2.lt j hj).1)
     rw[show E0.length+2*k+2=E0.length+2*(k+1) from by omega] at hown3
     have hown4:w2.ownsRow w.heap.size 3 1 v' (E0.length+2*(k+1)) (inV (E0++Bur.edg (l.take (k+1)))):=by
      rw[he.out,<- List.append_assoc,inV_app];exact hown3
     clear hown3 hgrow hown2 he
     go_wp2
     exact⟨⟨k+1,by omega,by go_num,hown4,hb4⟩,by simp[intOf];omega⟩
    ·have he:l.take k=l:=List.take_of_length_le (by omega)
     have hkl:k=l.length:=by omega
     have HT:Hid (Bur.edg (cat (ls.take (j+1)))=E0++Bur.edg l):=by show _=_;rw[hcat.out,Bur.edg_append,HE.out]
     have hl2:=Bur.edg_len l
     have hown3:=hown2
     rw[he,hkl,show E0.length+2*l.length=(Bur.edg (cat (ls.take (j+1)))).length from by rw[HT.out,List.length_append,hl2],<- HT.out] at hown3
     have hlen2:Hid ((Bur.edg (cat (ls.take (j+1)))).length<=(j+1)*128):=by show _<=_;rw[HT.out,List.length_append,hl2];omega
     clear hown2 hown he hkl HT hl2 hs hAl c0 hcat HE
     go_wp2
     exact⟨⟨j+1,by omega,by go_num,hlen2,hown3,hb3⟩,by simp[intOf];omega⟩
  ·have hj':ls.take j=ls:=List.take_of_length_le (by omega)
   have hlen':=hlen.out
   rw[hj'] at hown hlen'
   clear hj' hlen hL hA
   have hsl:=Bur.srt_len (Bur.edg (cat ls))
   generalize hE:Bur.edg (cat ls)=E at *
   have HE:Hid (Bur.edg (cat ls)=E):=hE
   clear hE
   rcases hown.2 with ⟨rfl,h0⟩|⟨g,cp,cur,rfl,hg0,hg,hnc,hcm,hcs,htk⟩
   ·have hEn:E=[]:=List.eq_nil_of_length_eq_zero h0
    subst hEn
    go_wp2_with (go_at_call 324;refine (Tryz.slices_Sort_int_none _ _ _).mono ?_;rintro e w1 ⟨rfl,h1⟩;replace h1:=h1.symm;subst h1)
    go_ret
    rw[HE.out]
    exact⟨none,0,by simp[Bur.srt],fun h=>by simp[Bur.srt] at h,hb⟩
   ·have hgl:g<wr.heap.size:=(Array.getElem?_eq_some_iff.1 hg).1
    have hH:=holds_of_blockI (ss:=E) hg (by rw[Nat.mul_one] at htk;exact htk)
    go_wp2_with (go_at_call 324;refine (Tryz.slices_Sort_int g 0 cp E _ hH hgl (by omega)).mono ?_;rintro e w1 ⟨rfl,n1,os1,h1⟩;have hb1:Below w.heap.size w w1:=hb.grown (row:=some g) (by rw[h1];exact grownBy_sortedI _) hsz (fun k hk=>by cases hk;exact hg0);have ho:w1.ownsRow w.heap.size 3 1 (.slice (some ⟨g,0,none⟩) E.length cp) E.length (inV (Bur.srt E)):=(by rw[h1];exact ownsRow_sortedI (by simp) hg0 hg hnc hcm hcs);clear h1)
    go_ret
    have ho':=ho
    rw[<- hsl] at ho'
    rw[HE.out]
    exact⟨some ⟨g,0,none⟩,cp,by rw[hsl];rfl,(inAt_own ho').2,hb1⟩
end Go.Proofs.YtcjdoeclblhaeaaGreatDoor.Sa
namespace Bur
def twF (how:Int) (a b:List Sp):Int:=if setF a=0 then (if setF b=0 then (if 64<(two how a b).length then 3 else 0) else setF b) else setF a
def twS (how:Int) (a b:List Sp):List Sp:=if twF how a b=0 then two how a b else []
def haF (l:List Sp) (x:Int):Int:=if setF l=0 then (if isA x=true then 0 else 1) else setF l
end Bur
namespace Go.Proofs.YtcjdoeclblhaeaaGreatDoor.Sa
open Go.RowKit
theorem cat2 (p:Option Addr) (c:Nat) (l:List Bur.Sp) (q:Option Addr) (d:Nat) (m:List Bur.Sp):cat [(p,c,l),(q,d,m)]=l++m:=by simp[cat]
end Go.Proofs.YtcjdoeclblhaeaaGreatDoor.Sa
namespace Go.Proofs.YtcjdoeclblhaeaaGreatDoor.Sa
open Go.RowKit
theorem combine3 (p:Option Addr) (ca:Nat) (a:List Bur.Sp) (q:Option Addr) (cb:Nat) (b:List Bur.Sp) (w:World) (hla:a.length<=9223372036854775807) (hlb:b.length<=9223372036854775807) (ha:SpAt w p a) (hb:SpAt w q b) :
  Calls Tryz.prog 308 #[.slice p a.length ca,.slice q b.length cb,.func (.func 309) #[] #[]] w fun e w'=>∃ (r:Option Addr) (cr:Nat),e=.returned (.tuple #[.slice r (Bur.twS 3 a b).length cr,ev (Bur.twF 3 a b)])/\SpAt w' r (Bur.twS 3 a b)/\Below w.heap.size w w':=by
 have hb0:Below w.heap.size w (w.alloc (.cells #[.func (.func 309) #[] #[]] 395)):=below_al (below_self _) _
 have hk0:(w.alloc (.cells #[.func (.func 309) #[] #[]] 395)).cell? ⟨w.heap.size,0,none⟩=some (.func (.func 309) #[] #[]):=by simp
 have ha0:=ha.step hb0
 have hb0':=hb.step hb0
 by_cases fa:Bur.setF a=0
 ·have eva:Hid (ev (Bur.setF a)=.nilIface):=by show _=_;rw[fa];rfl
  by_cases fb:Bur.setF b=0
  ·have evb:Hid (ev (Bur.setF b)=.nilIface):=by show _=_;rw[fb];rfl
   have oka:=Bur.setF_ok fa
   have okb:=Bur.setF_ok fb
   have hIn:Bur.InA (a++b):=fun s hs=>(List.mem_append.1 hs).elim (oka.2.2 s) (okb.2.2 s)
   have h64a:=oka.1
   have h64b:=okb.1
   have F1:Hid (Bur.twF 3 a b=if 64<(Bur.two 3 a b).length then 3 else 0):=by show _=_;simp only [Bur.twF,fa,fb,if_true]
   clear fa fb ha hb oka okb
   go_enter Tryz.func308,Tryz.ntmps308
   go_wp2_with fail
   generalize w.alloc (.cells #[.func (.func 309) #[] #[]] 395)=W0 at *
   refine (check p ca a _ hla ha0).mono ?_;rintro e w1 ⟨rfl,hb1⟩;rw[eva.out]
   replace ha0:=ha0.step hb1
   replace hb0':=hb0'.step hb1
   replace hk0:=(hb1.cell (World.block_lt_of_cell? _ _ hk0)).trans hk0
   replace hb0:=below_via hb0 hb1
   clear hb1 eva
   go_wp2_with fail
   refine (check q cb b _ hlb hb0').mono ?_;rintro e w2 ⟨rfl,hb1⟩;rw[evb.out]
   replace ha0:=ha0.step hb1
   replace hb0':=hb0'.step hb1
   replace hk0:=(hb1.cell (World.block_lt_of_cell? _ _ hk0)).trans hk0
   replace hb0:=below_via hb0 hb1
   clear hb1 evb
   go_wp2_with fail
   refine (asker p ca a w2 hla ha0).mono ?_;rintro e w3 ⟨qa,rfl,hqa,hb1⟩
   replace ha0:=ha0.step hb1
   replace hb0':=hb0'.step hb1
   replace hk0:=(hb1.cell (World.block_lt_of_cell? _ _ hk0)).trans hk0
   replace hb0:=below_via hb0 hb1
   clear hb1
   go_wp2_with fail
   refine (asker q cb b w3 hlb hb0').mono ?_;rintro e w4 ⟨qb,rfl,hqb,hb1⟩
   replace ha0:=ha0.step hb1
   replace hb0':=hb0'.step hb1
   replace hqa:=hqa.step hb1
   replace hk0:=(hb1.cell (World.block_lt_of_cell? _ _ hk0)).trans hk0
   replace hb0:=below_via hb0 hb1
   clear hb1
   have b1:Below w4.heap.size w4 (w4.alloc (.cells #[.func (.func 321) #[] #[.pointer (some qa)]] 158)):=below_al (below_self _) _
   have b2:Below w4.heap.size w4 ((w4.alloc (.cells #[.func (.func 321) #[] #[.pointer (some qa)]] 158)).alloc (.cells #[.func (.func 321) #[] #[.pointer (some qb)]] 158)):=below_al b1 _
   have b3:Below w4.heap.size w4 (((w4.alloc (.cells #[.func (.func 321) #[] #[.pointer (some qa)]] 158)).alloc (.cells #[.func (.func 321) #[] #[.pointer (some qb)]] 158)).alloc (.cells #[.slice p a.length ca,.slice q b.length cb] 342)):=below_al b2 _
   have i1:(((w4.alloc (.cells #[.func (.func 321) #[] #[.pointer (some qa)]] 158)).alloc (.cells #[.func (.func 321) #[] #[.pointer (some qb)]] 158)).alloc (.cells #[.slice p a.length ca,.slice q b.length cb] 342)).cell? ⟨w4.heap.size,0,none⟩=some (.func (.func 321) #[] #[.pointer (some qa)]):=by
    rw[World.cell?_alloc_lt _ _ _ (by simp;omega),World.cell?_alloc_lt _ _ _ (by simp)];simp
   have i2:(((w4.alloc (.cells #[.func (.func 321) #[] #[.pointer (some qa)]] 158)).alloc (.cells #[.func (.func 321) #[] #[.pointer (some qb)]] 158)).alloc (.cells #[.slice p a.length ca,.slice q b.length cb] 342)).cell? ⟨w4.heap.size+1,0,none⟩=some (.func (.func 321) #[] #[.pointer (some qb)]):=by
    rw[World.cell?_alloc_lt _ _ _ (by simp)];simp
   have i3:(((w4.alloc (.cells #[.func (.func 321) #[] #[.pointer (some qa)]] 158)).alloc (.cells #[.func (.func 321) #[] #[.pointer (some qb)]] 158)).alloc (.cells #[.slice p a.length ca,.slice q b.length cb] 342)).cell? ⟨w4.heap.size+1+1,0,none⟩=some (.slice p a.length ca):=by rw[World.cell?_alloc_at _ _ _ _ (by simp)];rfl
   have i4:(((w4.alloc (.cells #[.func (.func 321) #[] #[.pointer (some qa)]] 158)).alloc (.cells #[.func (.func 321) #[] #[.pointer (some qb)]] 158)).alloc (.cells #[.slice p a.length ca,.slice q b.length cb] 342)).cell? ⟨w4.heap.size+1+1,1,none⟩=some (.slice q b.length cb):=by rw[World.cell?_alloc_at _ _ _ _ (by simp)];rfl
   have i5:w4.heap.size+1+1<(((w4.alloc (.cells #[.func (.func 321) #[] #[.pointer (some qa)]] 158)).alloc (.cells #[.func (.func 321) #[] #[.pointer (some qb)]] 158)).alloc (.cells #[.slice p a.length ca,.slice q b.length cb] 342)).heap.size:=by simp
   go_wp2_with fail
   generalize (((w4.alloc (.cells #[.func (.func 321) #[] #[.pointer (some qa)]] 158)).alloc (.cells #[.func (.func 321) #[] #[.pointer (some qb)]] 158)).alloc (.cells #[.slice p a.length ca,.slice q b.length cb] 342))=W5 at *
   have hcl:Cl W5 309 ⟨w.heap.size,0,none⟩ ⟨w4.heap.size,0,none⟩ ⟨w4.heap.size+1,0,none⟩ qa qb a b:=⟨(b3.cell (World.block_lt_of_cell? _ _ hk0)).trans hk0,i1,i2,hqa.step b3,hqb.step b3⟩
   have hL:LsAt W5 (w4.heap.size+1+1) [(p,ca,a),(q,cb,b)]:=⟨i5,fun j x hx=>by
    match j,hx with
    | 0,hx=>simp at hx;subst hx;exact⟨i3,ha0.step b3,h64a⟩
    | 1,hx=>simp at hx;subst hx;exact⟨i4,hb0'.step b3,h64b⟩⟩
   replace hb0:=below_via hb0 b3
   clear b1 b2 b3 i1 i2 i3 i4 i5 ha0 hb0' hk0 hqa hqb
   refine (edges (w4.heap.size+1+1) 2 [(p,ca,a),(q,cb,b)] W5 (by simp) hL (by rw[cat2];exact hIn)).mono ?_
   rintro e w6 ⟨q6,cap6,rfl,hq6,hb6⟩
   rw[cat2,Bur.edg_append] at hq6
   rw[cat2,Bur.edg_append]
   replace hcl:=hcl.step hb6
   replace hb0:=below_via hb0 hb6
   clear hL hb6
   have hBz:∀ z∈Bur.srt (Bur.edg a++Bur.edg b),0<=z/\z<=4294967296:=fun z hz=>Bur.edg_pos hIn z (by rw[Bur.edg_append];exact (Bur.mem_srt _ _).1 hz)
   have hLz:(Bur.srt (Bur.edg a++Bur.edg b)).length<=1000000:=by rw[Bur.srt_len,List.length_append,Bur.edg_len,Bur.edg_len];omega
   go_wp2_with fail
   refine (gather2 (fun x=>Bur.kp 3 (Bur.mem a x) (Bur.mem b x)) q6 cap6 (Bur.srt (Bur.edg a++Bur.edg b)) ⟨w.heap.size,0,none⟩ ⟨w4.heap.size,0,none⟩ ⟨w4.heap.size+1,0,none⟩ w6 hLz hq6 hBz (fun x w1 h1=>ask3 x _ _ _ qa qb a b w1 (hcl.step h1))).mono ?_
   rintro e w7 ⟨q7,cap7,rfl,hq7,hb7⟩
   change SpAt w7 q7 (Bur.two 3 a b) at hq7
   have hT:Hid (Bur.gt (fun x=>Bur.kp 3 (Bur.mem a x) (Bur.mem b x)) none (Bur.srt (Bur.edg a++Bur.edg b))=Bur.two 3 a b):=rfl
   rw[hT.out]
   clear hT
   replace hb0:=below_via hb0 hb7
   clear hcl hb7 hq6 hBz hLz
   generalize hm:Bur.two 3 a b=m at *
   have HM:Hid (Bur.two 3 a b=m):=hm
   clear hm
   by_cases h64:64<m.length
   ·have F2:Hid (Bur.twF 3 a b=3):=by show _=_;rw[F1.out,if_pos h64]
    have F3:Hid (Bur.twS 3 a b=[]):=if_neg (by rw[F2.out];decide)
    clear F1
    go_wp2_with fail
    go_ret2
    rw[F2.out,F3.out]
    exact⟨none,0,rfl,SpAt.nil _ _,hb0⟩
   ·have F2:Hid (Bur.twF 3 a b=0):=by show _=_;rw[F1.out,if_neg h64]
    have F3:Hid (Bur.twS 3 a b=m):=by show _=_;unfold Bur.twS;rw[if_pos F2.out,HM.out]
    clear F1
    go_wp2_with fail
    go_ret2
    rw[F2.out,F3.out]
    exact⟨q7,cap7,rfl,hq7,hb0⟩
  ·have E:Bur.twF 3 a b=Bur.setF b:=by simp[Bur.twF,fa,fb]
   have E2:Bur.twS 3 a b=[]:=if_neg (by rw[E];exact fb)
   have evb:Hid (ev (Bur.setF b)=errN (Bur.setF b)):=if_neg fb
   rw[E,E2]
   clear fa E E2 ha hb
   go_enter Tryz.func308,Tryz.ntmps308
   go_wp2_with fail
   generalize w.alloc (.cells #[.func (.func 309) #[] #[]] 395)=W0 at *
   refine (check p ca a _ hla ha0).mono ?_;rintro e w1 ⟨rfl,hb1⟩;rw[eva.out]
   go_wp2_with fail
   refine (check q cb b _ hlb (hb0'.step hb1)).mono ?_;rintro e w2 ⟨rfl,hb2⟩;rw[evb.out]
   go_wp2_with fail
   go_ret2
   exact⟨none,0,by rw[evb.out];rfl,SpAt.nil _ _,below_via (below_via hb0 hb1) hb2⟩
 ·have E:Bur.twF 3 a b=Bur.setF a:=by simp[Bur.twF,fa]
  have E2:Bur.twS 3 a b=[]:=if_neg (by rw[E];exact fa)
  have eva:Hid (ev (Bur.setF a)=errN (Bur.setF a)):=if_neg fa
  rw[E,E2]
  clear E E2 ha hb hb0'
  go_enter Tryz.func308,Tryz.ntmps308
  go_wp2_with fail
  generalize w.alloc (.cells #[.func (.func 309) #[] #[]] 395)=W0 at *
  refine (check p ca a _ hla ha0).mono ?_;rintro e w1 ⟨rfl,hb1⟩;rw[eva.out]
  go_wp2_with fail
  go_ret2
  exact⟨none,0,by rw[eva.out];rfl,SpAt.nil _ _,below_via hb0 hb1⟩
theorem spanMinus (p:Option Addr) (ca:Nat) (a:List Bur.Sp) (q:Option Addr) (cb:Nat) (b:List Bur.Sp) (w:World) (hla:a.length<=9223372036854775807) (hlb:b.length<=9223372036854775807) (ha:SpAt w p a) (hb:SpAt w q b) :
  Calls Tryz.prog 304 #[.slice p a.length ca,.slice q b.length cb] w fun e w'=>∃ (r:Option Addr) (cr:Nat),e=.returned (.tuple #[.slice r (Bur.twS 3 a b).length cr,ev (Bur.twF 3 a b)])/\SpAt w' r (Bur.twS 3 a b)/\Below w.heap.size w w':=by
 go_enter Tryz.func304,Tryz.ntmps304
 go_wp2_with fail
 refine (combine3 p ca a q cb b w hla hlb ha hb).mono ?_
 rintro e w1 ⟨r,cr,rfl,h1,hb1⟩
 go_wp2_with fail
 go_ret2
 exact⟨r,cr,rfl,h1,hb1⟩
end Go.Proofs.YtcjdoeclblhaeaaGreatDoor.Sa
namespace Go.Proofs.YtcjdoeclblhaeaaGreatDoor.Rn
open Go.RowKit Go.Shelf
theorem appStrAt {w:World} {base ty:Nat} {v:Value} {l:List UInt8} (hown:w.ownsRow base 5 1 v l.length (byV l)) (s:ByteArray) (hlen:l.length+s.size<=2000000000) (hbase:base<=w.heap.size) :
  ∃ v' w',(Builtin.append_ #[30,9] ty #[v,.string s]).run Tryz.prog w=.ok v' w'/\w'.ownsRow base 5 1 v' (l++s.data.toList).length (byV (l++s.data.toList))/\w.grownBy w' v.ownBlock/\(v'.ownBlock=v.ownBlock \/ v'.ownBlock=some w.heap.size):=by
 obtain⟨i0,hi,hz0,hz1,hz2⟩:=info_parts infoByte
 have ht:=Tryz.underlying30
 have hu:=Tryz.underlying9
 obtain⟨v',w',hr,h2,h3,_⟩:=Lib.run_append_own_string (P:=Tryz.prog) w base 30 9 ty 5 i0 ht hu hi hz0 hz1 hz2 v l.length (byV l) hown s (by unfold maxLen;omega) (by omega) hbase
 refine⟨v',w',hr,own_str h2,h3,?_⟩
 rcases hown.2 with ⟨rfl,hn⟩|⟨g,cap,cur,rfl,hbg,hg,hnc,hcm,hcs,htake⟩
 ·by_cases hm:s.size=0
  ·have hf:=Lib.run_firstCells_string (P:=Tryz.prog) w 1 s
   rw[hm] at hf
   have hr2:(Builtin.append_ #[30,9] ty #[.slice none 0 0,.string s]).run Tryz.prog w=.ok (.slice none 0 0) w:=by
    simp[Builtin.append_,run_underlying ht,run_underlying hu,sizeOf,typeInfo,hi,hz1,Builtin.lenOf,hm,hf]
   rw[hr2] at hr
   injection hr with e1 e2
   exact .inl (by rw[<- e1])
  ·have hr2:=run_append_nil_string (P:=Tryz.prog) w 30 9 ty 5 i0 (.int .u8 0) ht hu hi hz0 s (by omega) (by omega) (by rw[hz2];omega)
   rw[hr2] at hr
   injection hr with e1 e2
   exact .inr (by rw[<- e1];rfl)
 ·by_cases hroom:l.length+s.size<=cap
  ·have hr2:=Lib.run_append_room_string (P:=Tryz.prog) w 30 9 ty 5 i0 ht hu hi hz1 g l.length cap cur hg s hroom (by rw[hcs];omega)
   rw[hr2] at hr
   injection hr with e1 e2
   exact .inl (by rw[<- e1];rfl)
  ·have holds:∀ j u,(byV l)[j]? = some u->w.cell? ((⟨g,0,none⟩:Addr).add j)=some u:=hown.cells (g:=g) rfl
   have hcm':cap<=maxLen:=hcm
   have hr2:=Lib.run_append_grow_string (P:=Tryz.prog) w 30 9 ty 5 i0 (.int .u8 0) ht hu hi hz0 ⟨g,0,none⟩ l.length cap (byV l) (by rw[hz1,byV_len,Nat.mul_one]) holds s (by omega) (by omega) (by rw[hz2];exact growslice_fits (by omega) (by omega))
   rw[hr2] at hr
   injection hr with e1 e2
   exact .inr (by rw[<- e1];rfl)
theorem wpList_append_strAt {w:World} {ops:Array Oper} {rest:List Oper} {o:Oper} {a:Act} {Q:Exit->Act->World->Prop} (hgd:o.guard=none) (sl x:Operand)
  (ho:o.op=.call { callee:=.builtin .append,args:=#[sl,x],argTypes:=#[30,9] })
  (base:Nat) (v:Value) (l:List UInt8) (hs:a.eval sl=v) (hown:w.ownsRow base 5 1 v l.length (byV l)) (s:ByteArray) (hx:a.eval x=.string s)
  (h63:l.length+s.size<=2000000000) (hbase:base<=w.heap.size)
  (h:∀ v' w',w'.ownsRow base 5 1 v' (l++s.data.toList).length (byV (l++s.data.toList))->w.grownBy w' v.ownBlock->(v'.ownBlock=v.ownBlock \/ v'.ownBlock=some w.heap.size)->wpList Tryz.prog ops Q rest (a.put o.dst v') w'):wpList Tryz.prog ops Q (o :: rest) a w:=by
 refine wpList_plain hgd fun K hK=>?_
 obtain⟨v',w',hr,h2,h3,h4⟩:=appStrAt (ty:=o.type) hown s h63 hbase
 unfold Oper.wp execOp
 simp only [ho,resolve,invoke,builtin,Sem.run_bind,Sem.run_pure,Result.andThen_ok,List.map_toArray,List.map_cons,List.map_nil,hs,hx,hr]
 exact hK _ _ (h v' w' h2 h3 h4)
theorem wpList_append_byteAt {w:World} {ops:Array Oper} {rest:List Oper} {o:Oper} {a:Act} {Q:Exit->Act->World->Prop} (hgd:o.guard=none) (sl x:Operand)
  (ho:o.op=.call { callee:=.builtin .append,args:=#[sl,x],argTypes:=#[30,30] })
  (base:Nat) (v:Value) (l:List UInt8) (hs:a.eval sl=v) (hown:w.ownsRow base 5 1 v l.length (byV l)) (hbase:base<=w.heap.size)
  (N:Nat) (c:UInt8) (hx:a.eval x=.slice (some ⟨N,0,none⟩) 1 1) (hc:w.cell? ⟨N,0,none⟩=some (.int .u8 c.toNat)) (h63:l.length<=2000000000)
  (h:∀ v' w',w'.ownsRow base 5 1 v' (l ++ [c]).length (byV (l ++ [c]))->w.grownBy w' v.ownBlock->(v'.ownBlock=v.ownBlock \/ v'.ownBlock=some w.heap.size)->wpList Tryz.prog ops Q rest (a.put o.dst v') w'):wpList Tryz.prog ops Q (o :: rest) a w:=by
 obtain⟨i0,hin,hz0,hz1,hz2⟩:=info_parts infoByte
 obtain⟨v',w',hr,h2,h3,_,h5⟩:=run_append_own_at (P:=Tryz.prog) w base 30 o.type 5 i0 (.int .u8 0) 1 1 Tryz.underlying30 hin hz0 hz1 hz2 rfl (by decide) v l.length (byV l) hown ⟨N,0,none⟩ 1 1 [.int .u8 c.toNat] rfl (fun j u hj=>by
  match j,hj with
  | 0,hj=>simp at hj;subst hj;simpa [Addr.add] using hc) byte_one (by unfold maxLen;omega) (by omega) hbase
 refine wpList_plain hgd fun K hK=>?_
 unfold Oper.wp execOp
 simp only [ho,resolve,invoke,builtin,Sem.run_bind,Sem.run_pure,Result.andThen_ok,List.map_toArray,List.map_cons,List.map_nil,hs,hx,hr]
 exact hK _ _ (h v' w' (own_byte rfl h2) h3 h5)
theorem ccUsed (b:Nat) (w:World) (h0:w.cell? ⟨b,0,none⟩=some (.pointer (some ⟨b,0,none⟩))) :
  Calls Tryz.prog 13 #[.pointer (some ⟨b,0,none⟩)] w fun e w'=>e=.returned (.tuple #[])/\w'=w:=
 Any.Builder_copyCheck_used { Tryz.lays156 with } Tryz.Builder_Extra_156.toX72 b w h0
theorem ccFresh (b:Nat) (w:World) (h0:w.cell? ⟨b,0,none⟩=some (.pointer none)) (hsh:w.shape? b=some (32,2)) (hfz:w.frozen? ⟨b,0,none⟩=false) :
  Calls Tryz.prog 13 #[.pointer (some ⟨b,0,none⟩)] w fun e w'=>e=.returned (.tuple #[])/\w'=w.setCell ⟨b,0,none⟩ (.pointer (some ⟨b,0,none⟩)):=
 Any.Builder_copyCheck_fresh { Tryz.lays156 with } Tryz.Builder_Extra_156.toX72 b w h0 hsh hfz
structure Bv (w:World) (b:Nat) (p v:Value) (l:List UInt8):Prop where
 at_:w.heap[b]? = some (.cells #[p,v] 32 (0,0))
 own:w.ownsRow b 5 1 v l.length (byV l)
def Br (b:Nat) (v:Value) (j:Nat):Prop:=j=b \/ v.ownBlock=some j
theorem Bv.lt {w:World} {b:Nat} {p v:Value} {l:List UInt8} (h:Bv w b p v l):b<w.heap.size:=by
 rcases Nat.lt_or_ge b w.heap.size with h'|h'
 ·exact h'
 ·have:=h.at_
  simp[Array.getElem?_eq_none h'] at this
theorem Bv.ne {w:World} {b:Nat} {p v:Value} {l:List UInt8} (h:Bv w b p v l):v.ownBlock≠some b:=Lib.ownBlock_ne h.own h.at_ (by decide)
theorem Bv.rlt {w:World} {b:Nat} {p v:Value} {l:List UInt8} (h:Bv w b p v l):∀ j,Br b v j->b<=j/\j<w.heap.size:=by
 intro j hj
 rcases hj with e|e
 ·subst e;exact⟨Nat.le_refl _,h.lt⟩
 ·exact h.own.lt j e
theorem Bv.but {w w':World} {b:Nat} {p v:Value} {l:List UInt8} {F:Nat->Prop} (h:Bv w b p v l) (hb:But F w w') (hF:∀ j,Br b v j -> ¬ F j):Bv w' b p v l:=by
 refine⟨(hb.block b h.lt (hF b (.inl rfl))).trans h.at_,?_⟩
 rcases h.own with ⟨hn,hv⟩
 refine⟨hn,hv.imp id ?_⟩
 rintro ⟨g,cap,cur,rfl,q1,q2,q3⟩
 exact⟨g,cap,cur,rfl,q1,(hb.block g (h.rlt g (.inr rfl)).2 (hF g (.inr rfl))).trans q2,q3⟩
theorem Bv.new (w:World):Bv (w.alloc (.cells #[.pointer none,.slice none 0 0] 32)) w.heap.size (.pointer none) (.slice none 0 0) []:=
 ⟨heap_alloc_new w _,World.ownsRow_nil _ _ _ _⟩
theorem Bv.check {w:World} {b:Nat} {p v:Value} {l:List UInt8} (h:Bv w b p v l) (hp:p=.pointer none \/ p=.pointer (some ⟨b,0,none⟩)) :
  Calls Tryz.prog 13 #[.pointer (some ⟨b,0,none⟩)] w fun e w'=>e=.returned (.tuple #[])/\Bv w' b (.pointer (some ⟨b,0,none⟩)) v l/\But (fun j=>j=b) w w':=by
 rcases hp with rfl|rfl
 ·refine (ccFresh b w (by rw[Lib.cell_of_heap h.at_];rfl) (by simp[World.shape?,h.at_]) (Lib.frozen_of_heap h.at_ 0)).mono ?_
  rintro e w' ⟨rfl,rfl⟩
  have hb:But (fun j=>j=b) w (w.setCell ⟨b,0,none⟩ (.pointer (some ⟨b,0,none⟩))):=(But.refl (fun j=>j=b) w).setCell (p:=⟨b,0,none⟩) (.inl rfl) _
  refine⟨rfl,⟨?_,?_⟩,hb⟩
  ·have:=h.at_
   simp[World.setCell,Array.getElem?_modify,this]
  ·rcases h.own with ⟨hn,hv⟩
   refine⟨hn,hv.imp id ?_⟩
   rintro ⟨g,cap,cur,rfl,q1,q2,q3⟩
   exact⟨g,cap,cur,rfl,q1,(hb.block g (h.rlt g (.inr rfl)).2 (fun e=>h.ne (by rw[e];rfl))).trans q2,q3⟩
 ·refine (ccUsed b w (by rw[Lib.cell_of_heap h.at_];rfl)).mono ?_
  rintro e w' ⟨rfl,rfl⟩
  exact⟨rfl,h,But.refl _ _⟩
def Bw (w w':World) (b:Nat) (v:Value) (l':List UInt8):Prop:=∃ v',Bv w' b (.pointer (some ⟨b,0,none⟩)) v' l'/\(∀ j,Br b v' j->Br b v j \/ w.heap.size<=j)/\But (Br b v) w w'
theorem bw_of {w w1 w2 w3:World} {b:Nat} {v v':Value} {l l':List UInt8} (h1:Bv w1 b (.pointer (some ⟨b,0,none⟩)) v l) (hb1:But (fun j=>j=b) w w1) (ha:Below w1.heap.size w1 w2) (hg:w2.grownBy w3 v.ownBlock) (ho:w3.ownsRow b 5 1 v' l'.length (byV l')) (hl:v'.ownBlock=v.ownBlock \/ v'.ownBlock=some w2.heap.size) :
  Bw w (w3.setCell ⟨b,1,none⟩ v') b v l'/\w3.heap[b]? = some (.cells #[.pointer (some ⟨b,0,none⟩),v] 32 (0,0)):=by
 have hB:But (fun j=>v.ownBlock=some j) w1 w3:=(But.below ha).grown hg (fun k hk=>.inl hk)
 have h3:w3.heap[b]? = some (.cells #[.pointer (some ⟨b,0,none⟩),v] 32 (0,0)):=(hB.block b h1.lt h1.ne).trans h1.at_
 refine⟨⟨v',?_,fun j hj=>?_,?_⟩,h3⟩
 ·have hne:=Lib.ownBlock_ne ho h3 (by decide)
  have hb:But (fun j=>j=b) w3 (w3.setCell ⟨b,1,none⟩ v'):=(But.refl (fun j=>j=b) w3).setCell (p:=⟨b,1,none⟩) (.inl rfl) _
  refine⟨by simp[World.setCell,Array.getElem?_modify,h3],?_⟩
  rcases ho with ⟨hn,hv⟩
  refine⟨hn,hv.imp id ?_⟩
  rintro ⟨g,cap,cur,rfl,q1,q2,q3⟩
  have lg:g<w3.heap.size:=by
   rcases Nat.lt_or_ge g w3.heap.size with q|q
   ·exact q
   ·simp[Array.getElem?_eq_none q] at q2
  exact⟨g,cap,cur,rfl,q1,(hb.block g lg (fun e=>hne (by rw[e];rfl))).trans q2,q3⟩
 ·rcases hj with e|e
  ·exact .inl (.inl e)
  ·rcases hl with q|q
   ·exact .inl (.inr (q.symm.trans e))
   ·rw[q] at e
    injection e with e
    have:=hb1.size
    have:=ha.size
    exact .inr (by omega)
 ·have h1':But (Br b v) w w1:=hb1.mono (fun k _ hk=>.inl hk)
  have h2':But (Br b v) w w3:=h1'.then hB (fun i _ hi=>.inr hi)
  exact h2'.setCell (p:=⟨b,1,none⟩) (.inl (.inl rfl)) v'
theorem writeByte (b:Nat) (p v:Value) (l:List UInt8) (c:UInt8) (w:World) (h:Bv w b p v l) (hp:p=.pointer none \/ p=.pointer (some ⟨b,0,none⟩)) (hlen:l.length<=2000000000) :
  Calls Tryz.prog 9 #[.pointer (some ⟨b,0,none⟩),.int .u8 c.toNat] w fun e w'=>e=.returned .nilIface/\Bw w w' b v (l ++ [c]):=by
 have KC:=h.check hp
 obtain⟨q0,n0,cp0,rfl⟩:∃ q n cap,v=.slice q n cap:=by
  rcases h.own.2 with ⟨e,_⟩|⟨g,cap,cur,hv,_⟩
  ·exact⟨_,_,_,e⟩
  ·exact⟨_,_,_,hv⟩
 go_enter Tryz.func9,Tryz.ntmps9
 go_wp2_with (go_at_call 13;refine KC.mono ?_)
 rintro e w1 ⟨rfl,h1,hb1⟩
 clear KC
 have c0:w1.cell? ⟨b,0,none⟩=some (.pointer (some ⟨b,0,none⟩)):=by rw[Lib.cell_of_heap h1.at_];rfl
 have c1:w1.cell? ⟨b,1,none⟩=some (.slice q0 n0 cp0):=by rw[Lib.cell_of_heap h1.at_];rfl
 have l1:=h1.lt
 go_wp2_with (at_builtin;refine wpList_append_byteAt rfl _ _ rfl b _ l rfl (h1.own.alloc _) ?q1 w1.heap.size c rfl ?q2 hlen ?_)
 case q1=>simp;omega
 case q2=>simp
 intro v' w3 ho hg hl
 obtain⟨R,hb3⟩:=bw_of (l':=l ++ [c]) h1 hb1 (below_al (below_self _) _) hg (by simpa using ho) (by simpa using hl)
 have d0:w3.cell? ⟨b,0,none⟩=some (.pointer (some ⟨b,0,none⟩)):=by rw[Lib.cell_of_heap hb3];rfl
 have d1:w3.cell? ⟨b,1,none⟩=some (.slice q0 n0 cp0):=by rw[Lib.cell_of_heap hb3];rfl
 have f1:w3.frozen? ⟨b,1,none⟩=false:=Lib.frozen_of_heap hb3 1
 obtain⟨q,cap,n,rfl⟩:∃ q cap n,v'=.slice q n cap:=by
  rcases ho.2 with ⟨e,_⟩|⟨g,cap,cur,hv,_⟩
  ·exact⟨_,_,_,e⟩
  ·exact⟨_,_,_,hv⟩
 clear ho hg hl h1 hb1
 go_wp2
 go_ret
 exact⟨rfl,R⟩
theorem writeStr (b:Nat) (p v:Value) (l:List UInt8) (s:ByteArray) (w:World) (h:Bv w b p v l) (hp:p=.pointer none \/ p=.pointer (some ⟨b,0,none⟩)) (hlen:l.length+s.size<=2000000000) :
  Calls Tryz.prog 7 #[.pointer (some ⟨b,0,none⟩),.string s] w fun e w'=>e=.returned (.tuple #[.int .i64 s.size,.nilIface])/\Bw w w' b v (l++s.data.toList):=by
 have KC:=h.check hp
 obtain⟨q0,n0,cp0,rfl⟩:∃ q n cap,v=.slice q n cap:=by
  rcases h.own.2 with ⟨e,_⟩|⟨g,cap,cur,hv,_⟩
  ·exact⟨_,_,_,e⟩
  ·exact⟨_,_,_,hv⟩
 go_enter Tryz.func7,Tryz.ntmps7
 go_wp2_with (go_at_call 13;refine KC.mono ?_)
 rintro e w1 ⟨rfl,h1,hb1⟩
 clear KC
 have c0:w1.cell? ⟨b,0,none⟩=some (.pointer (some ⟨b,0,none⟩)):=by rw[Lib.cell_of_heap h1.at_];rfl
 have c1:w1.cell? ⟨b,1,none⟩=some (.slice q0 n0 cp0):=by rw[Lib.cell_of_heap h1.at_];rfl
 have l1:=h1.lt
 go_wp2_with (at_builtin;refine wpList_append_strAt rfl _ _ rfl b _ l rfl h1.own s rfl hlen (by omega) ?_)
 intro v' w3 ho hg hl
 obtain⟨R,hb3⟩:=bw_of (l':=l++s.data.toList) h1 hb1 (below_self _) hg (by simpa using ho) hl
 have d0:w3.cell? ⟨b,0,none⟩=some (.pointer (some ⟨b,0,none⟩)):=by rw[Lib.cell_of_heap hb3];rfl
 have d1:w3.cell? ⟨b,1,none⟩=some (.slice q0 n0 cp0):=by rw[Lib.cell_of_heap hb3];rfl
 have f1:w3.frozen? ⟨b,1,none⟩=false:=Lib.frozen_of_heap hb3 1
 obtain⟨q,cap,n,rfl⟩:∃ q cap n,v'=.slice q n cap:=by
  rcases ho.2 with ⟨e,_⟩|⟨g,cap,cur,hv,_⟩
  ·exact⟨_,_,_,e⟩
  ·exact⟨_,_,_,hv⟩
 clear ho hg hl h1 hb1
 go_wp2
 go_ret2
 exact⟨rfl,R⟩
theorem strAny (b:Nat) (p v:Value) (l:List UInt8) (w:World) (h:Bv w b p v l) (hp:p=.pointer none \/ p=.pointer (some ⟨b,0,none⟩)) :
  Calls Tryz.prog 10 #[.pointer (some ⟨b,0,none⟩)] w fun e w'=>e=.returned (.string ⟨l.toArray⟩)/\Below b w w':=by
 have hl:=h.lt
 have hA:∀ q,p=q->Lib.BuilderAt 32 5 b b q (Lib.byteCells l) w:=fun q e=>⟨Nat.le_refl _,v,e ▸ h.at_,by
  have:=h.own
  rw[show byV l=Lib.byteCells l from rfl] at this
  rw[show (Lib.byteCells l).length=l.length from by simp[Lib.byteCells]]
  exact this,h.ne⟩
 exact Tryz.Builder_String_any b b l w (hp.imp (hA _) (hA _)) (by omega)
end Go.Proofs.YtcjdoeclblhaeaaGreatDoor.Rn
