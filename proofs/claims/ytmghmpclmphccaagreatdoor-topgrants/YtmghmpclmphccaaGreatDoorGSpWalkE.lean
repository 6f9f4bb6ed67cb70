/- -/
import Derived.Test.YtmghmpclmphccaaGreatDoorGSpWalkA
import Derived.Test.YtmghmpclmphccaaGreatDoorGShelf
import Derived.Sort.OwnSortedInts
import Derived.Laws.EntriesVeiled
set_option maxHeartbeats 8000000
namespace Go.Proofs.YtmghmpclmphccaaGreatDoor.Sa
open Go.RowKit Go.Sort
abbrev Ls:=Option Addr×Nat×List Bur.Sp
def cat (ls:List Ls):List Bur.Sp:=ls.flatMap (·.2.2)
def slV (x:Ls):Value:=.slice x.1 x.2.2.length x.2.1
def zy (w:World)(L:Nat)(ls:List Ls):Prop:=L<w.heap.size /\ ∀j x,ls[j]? = some x->w.cell? ⟨L,j,none⟩=some (slV x)/\aU w x.1 x.2.2/\x.2.2.length<=64
def inV (zs:List Int):List Value:=zs.map (Value.int .i64)
theorem ac6 (a b:List Int):inV (a++b)=inV a++inV b:=by simp[inV]
theorem yT {w:World}{B n cap:Nat}{p:Option Addr}{zs:List Int}(h:w.ownsRow B 3 1 (.slice p n cap) zs.length (inV zs)):n=zs.length/\rD w p zs:=by
 rcases h.2 with ⟨h0,h1⟩|⟨g,cap',cur,h0,_,hg,_,_,_,_⟩
 ·cases h0;exact⟨h1.symm,fun hp=>by omega⟩
 ·cases h0
  refine⟨rfl,fun _=>⟨g,0,rfl,(Array.getElem?_eq_some_iff.1 hg).1,fun i hi=>?_⟩⟩
  rw[Nat.zero_add,h.cellAt i (by omega)]
  simp[inV,List.getElem?_eq_getElem hi]
theorem ZE {l:List Bur.Sp}{k:Nat}(h:k<l.length):Bur.edg (l.take (k+1))=Bur.edg (l.take k) ++ [lo l k,hi l k+1]:=by
 rw[List.take_add_one,List.getElem?_eq_getElem h,Bur.iY]
 simp[Bur.edg,lo,hi,List.getD,List.getElem?_eq_getElem h]
theorem edges (L m:Nat)(ls:List Ls)(w:World)(hm:ls.length<=4)(hL:zy w L ls)(hA:Bur.InA (cat ls)) :
  Calls Tryz.prog 278 #[.slice (some ⟨L,0,none⟩) ls.length m] w fun e w'=>∃(q:Option Addr) (cap:Nat),e=.returned (.slice q (Bur.srt (Bur.edg (cat ls))).length cap)/\rD w' q (Bur.srt (Bur.edg (cat ls)))/\Below w.heap.size w w':=by
 obtain⟨i0,hin,hz0,hz1,hz2⟩:=info_parts XE
 go_enter Tryz.func278,Tryz.ntmps278
 go_wp2
 go_loopw [3,10] (fun v i wr=>∃(j:Nat),j<=ls.length/\i=.int .i64 j/\Hid ((Bur.edg (cat (ls.take j))).length<=j*128)/\wr.ownsRow w.heap.size 3 1 v (Bur.edg (cat (ls.take j))).length (inV (Bur.edg (cat (ls.take j))))/\Below w.heap.size w wr) (fun _ i _=>ls.length - (intOf i).toNat)
 case atStart=>exact⟨0,by omega,rfl,by show _<=_;simp[cat,Bur.edg],World.ownsRow_nil _ _ _ _,ah _⟩
 case round=>
  obtain⟨j,hj,rfl,hlen,hown,hb⟩:=hrel
  have hsz:=hb.size
  by_cases hlt:j<ls.length
  ·have hlt':(j:Int)<(ls.length:Int):=by omega
   obtain⟨x,hx⟩:∃x,ls[j]? = some x:=⟨_,List.getElem?_eq_getElem hlt⟩
   have hLw:=hL.2 j x hx
   obtain⟨p,cp,l⟩:=x
   have c0:wr.cell? ⟨L,j,none⟩=some (.slice p l.length cp):=(hb.cell (p:=⟨L,j,none⟩) hL.1).trans hLw.1
   have hs:aU w p l:=hLw.2.1
   have hl:l.length<=64:=hLw.2.2
   have hcat:Hid (cat (ls.take (j+1))=cat (ls.take j)++l):=by
    show _=_
    rw[List.take_add_one,hx]
    simp[cat]
   have hAl:Bur.InA l:=fun s hs=>hA s (by
    have:(p,cp,l)∈ls:=List.mem_of_getElem? hx
    simp only [cat,List.mem_flatMap]
    exact⟨_,this,hs⟩)
   generalize hE:Bur.edg (cat (ls.take j))=E0 at *
   have HE:Hid (Bur.edg (cat (ls.take j))=E0):=hE
   have hlen':=hlen.out
   clear hE hLw hL hA hlen hx
   go_wp2
   go_loopw [3,16] (fun v i wy=>∃(k:Nat),k<=l.length/\i=.int .i64 k/\wy.ownsRow w.heap.size 3 1 v (E0.length+2*k) (inV (E0++Bur.edg (l.take k)))/\Below w.heap.size w wy) (fun _ i _=>l.length - (intOf i).toNat)
   case atStart=>exact⟨0,by omega,rfl,by simpa [Bur.edg] using hown,hb⟩
   case round=>
    obtain⟨k,hk,rfl,hown2,hb3⟩:=hrel
    have hsz3:=hb3.size
    by_cases hlt2:k<l.length
    ·have hlt2':(k:Int)<(l.length:Int):=by omega
     obtain⟨b,off,rfl,hbl,hc⟩:=hs (by omega)
     have hcb:=ER hb3
     have c1:wr.cell? ⟨b,off+k*2,none⟩=some (.int .i64 (lo l k)):=(hcb.1 _ _ hbl).trans (hc k hlt2).1
     have c2:wr.cell? ⟨b,off+k*2+1,none⟩=some (.int .i64 (hi l k)):=(hcb.1 _ _ hbl).trans (hc k hlt2).2
     have ok:=hAl (lo l k,hi l k) (by
      have:(lo l k,hi l k)∈l.drop k:=by rw[fO hlt2];simp
      exact List.mem_of_mem_drop this)
     simp only at ok
     have he:Hid _:=ZE hlt2
     clear hc hcb hs hAl c0
     go_wp2_with (at_builtin;refine wpList_append_own _ rfl _ _ 57 rfl w.heap.size 3 i0 (.int .i64 0) 1 8 Tryz.underlying57 hin hz0 hz1 hz2 rfl (by decide) _ _ _ rfl ((hown2.alloc _).alloc _) ⟨wr.heap.size+1,0,none⟩ 2 2 [.int .i64 (lo l k),.int .i64 (hi l k+1)] rfl rfl ?c1 ?c2 ?c3 ?c4 ?c5 ?_)
     case c1=>
      intro j u hj
      match j,hj with
      | 0,hj=>simp at hj;subst hj;simp[Addr.add]
      | 1,hj=>simp at hj;subst hj;simp[Addr.add]
     case c2=>intro u hu;simp at hu;rcases hu with rfl|rfl <;> rfl
     case c3=>unfold maxLen;omega
     case c4=>omega
     case c5=>simp;omega
     intro v' w2 hown3 hgrow _
     have hb4:Below w.heap.size w w2:=(aj (aj hb3 _) _).grown hgrow (by simp;omega) (fun j hj=>(hown2.lt j hj).1)
     rw[show E0.length+2*k+2=E0.length+2*(k+1) from by omega] at hown3
     have hown4:w2.ownsRow w.heap.size 3 1 v' (E0.length+2*(k+1)) (inV (E0++Bur.edg (l.take (k+1)))):=by
      rw[he.out,<- List.append_assoc,ac6];exact hown3
     clear hown3 hgrow hown2 he
     go_wp2
     exact⟨⟨k+1,by omega,by go_num,hown4,hb4⟩,by simp[intOf];omega⟩
    ·have he:l.take k=l:=List.take_of_length_le (by omega)
     have hkl:k=l.length:=by omega
     have HT:Hid (Bur.edg (cat (ls.take (j+1)))=E0++Bur.edg l):=by show _=_;rw[hcat.out,Bur.iY,HE.out]
     have hl2:=Bur.BQ l
     have hown3:=hown2
     rw[he,hkl,show E0.length+2*l.length=(Bur.edg (cat (ls.take (j+1)))).length from by rw[HT.out,List.length_append,hl2],<- HT.out] at hown3
     have hlen2:Hid ((Bur.edg (cat (ls.take (j+1)))).length<=(j+1)*128):=by show _<=_;rw[HT.out,List.length_append,hl2];omega
     clear hown2 hown he hkl HT hl2 hs hAl c0 hcat HE
     go_wp2
     exact⟨⟨j+1,by omega,by go_num,hlen2,hown3,hb3⟩,by simp[intOf];omega⟩
  ·have hj':ls.take j=ls:=List.take_of_length_le (by omega)
   have hlen':=hlen.out
   rw[hj'] at hown hlen'
   clear hj' hlen hL hA
   have hsl:=Bur.Uk (Bur.edg (cat ls))
   generalize hE:Bur.edg (cat ls)=E at *
   have HE:Hid (Bur.edg (cat ls)=E):=hE
   clear hE
   rcases hown.2 with ⟨rfl,h0⟩|⟨g,cp,cur,rfl,hg0,hg,hnc,hcm,hcs,htk⟩
   ·have hEn:E=[]:=List.eq_nil_of_length_eq_zero h0
    subst hEn
    go_wp2_with (go_at_call 288;refine (Tryz.slices_Sort_int_none _ _ _).mono ?_;rintro e w1 ⟨rfl,h1⟩;replace h1:=h1.symm;subst h1)
    go_ret
    rw[HE.out]
    exact⟨none,0,by simp[Bur.srt],fun h=>by simp[Bur.srt] at h,hb⟩
   ·have hgl:g<wr.heap.size:=(Array.getElem?_eq_some_iff.1 hg).1
    have hH:=holds_of_blockI (ss:=E) hg (by rw[Nat.mul_one] at htk;exact htk)
    go_wp2_with (go_at_call 288;refine (Tryz.slices_Sort_int g 0 cp E _ hH hgl (by omega)).mono ?_;rintro e w1 ⟨rfl,n1,os1,h1⟩;have hb1:Below w.heap.size w w1:=hb.grown (row:=some g) (by rw[h1];exact grownBy_sortedI _) hsz (fun k hk=>by cases hk;exact hg0);have ho:w1.ownsRow w.heap.size 3 1 (.slice (some ⟨g,0,none⟩) E.length cp) E.length (inV (Bur.srt E)):=(by rw[h1];exact ownsRow_sortedI (by simp) hg0 hg hnc hcm hcs);clear h1)
    go_ret
    have ho':=ho
    rw[<- hsl] at ho'
    rw[HE.out]
    exact⟨some ⟨g,0,none⟩,cp,by rw[hsl];rfl,(yT ho').2,hb1⟩
end Go.Proofs.YtmghmpclmphccaaGreatDoor.Sa
namespace Bur
def twF (how:Int)(a b:List Sp):Int:=if gX a=0 then (if gX b=0 then (if 64<(two how a b).length then 3 else 0) else gX b) else gX a
def twS (how:Int)(a b:List Sp):List Sp:=if twF how a b=0 then two how a b else []
def haF (l:List Sp)(x:Int):Int:=if gX l=0 then (if isA x=true then 0 else 1) else gX l
end Bur
namespace Go.Proofs.YtmghmpclmphccaaGreatDoor.Sa
open Go.RowKit
theorem aeQ (p:Option Addr)(c:Nat)(l:List Bur.Sp)(q:Option Addr)(d:Nat)(m:List Bur.Sp):cat [(p,c,l),(q,d,m)]=l++m:=by simp[cat]
theorem XF (p:Option Addr)(ca:Nat)(a:List Bur.Sp)(q:Option Addr)(cb:Nat)(b:List Bur.Sp)(w:World)(hla:a.length<=9223372036854775807)(hlb:b.length<=9223372036854775807)(ha:aU w p a)(hb:aU w q b) :
  Calls Tryz.prog 264 #[.slice p a.length ca,.slice q b.length cb,.func (.func 265) #[] #[]] w fun e w'=>∃(r:Option Addr) (cr:Nat),e=.returned (.tuple #[.slice r (Bur.twS 3 a b).length cr,ev (Bur.twF 3 a b)])/\aU w' r (Bur.twS 3 a b)/\Below w.heap.size w w':=by
 have hb0:Below w.heap.size w (w.alloc (.cells #[.func (.func 265) #[] #[]] 360)):=aj (ah _) _
 have hk0:(w.alloc (.cells #[.func (.func 265) #[] #[]] 360)).cell? ⟨w.heap.size,0,none⟩=some (.func (.func 265) #[] #[]):=by simp
 have ha0:=ha.step hb0
 have hb0':=hb.step hb0
 by_cases fa:Bur.gX a=0
 ·have eva:Hid (ev (Bur.gX a)=.nilIface):=by show _=_;rw[fa];rfl
  by_cases fb:Bur.gX b=0
  ·have evb:Hid (ev (Bur.gX b)=.nilIface):=by show _=_;rw[fb];rfl
   have oka:=Bur.Cj fa
   have okb:=Bur.Cj fb
   have hIn:Bur.InA (a++b):=fun s hs=>(List.mem_append.1 hs).elim (oka.2.2 s) (okb.2.2 s)
   have h64a:=oka.1
   have h64b:=okb.1
   have F1:Hid (Bur.twF 3 a b=if 64<(Bur.two 3 a b).length then 3 else 0):=by show _=_;simp only [Bur.twF,fa,fb,if_true]
   clear fa fb ha hb oka okb
   go_enter Tryz.func264,Tryz.ntmps264
   go_wp2_with fail
   generalize w.alloc (.cells #[.func (.func 265) #[] #[]] 360)=W0 at *
   refine (check p ca a _ hla ha0).mono ?_;rintro e w1 ⟨rfl,hb1⟩;rw[eva.out]
   replace ha0:=ha0.step hb1
   replace hb0':=hb0'.step hb1
   replace hk0:=(hb1.cell (World.block_lt_of_cell? _ _ hk0)).trans hk0
   replace hb0:=ak hb0 hb1
   clear hb1 eva
   go_wp2_with fail
   refine (check q cb b _ hlb hb0').mono ?_;rintro e w2 ⟨rfl,hb1⟩;rw[evb.out]
   replace ha0:=ha0.step hb1
   replace hb0':=hb0'.step hb1
   replace hk0:=(hb1.cell (World.block_lt_of_cell? _ _ hk0)).trans hk0
   replace hb0:=ak hb0 hb1
   clear hb1 evb
   go_wp2_with fail
   refine (asker p ca a w2 hla ha0).mono ?_;rintro e w3 ⟨qa,rfl,hqa,hb1⟩
   replace ha0:=ha0.step hb1
   replace hb0':=hb0'.step hb1
   replace hk0:=(hb1.cell (World.block_lt_of_cell? _ _ hk0)).trans hk0
   replace hb0:=ak hb0 hb1
   clear hb1
   go_wp2_with fail
   refine (asker q cb b w3 hlb hb0').mono ?_;rintro e w4 ⟨qb,rfl,hqb,hb1⟩
   replace ha0:=ha0.step hb1
   replace hb0':=hb0'.step hb1
   replace hqa:=hqa.step hb1
   replace hk0:=(hb1.cell (World.block_lt_of_cell? _ _ hk0)).trans hk0
   replace hb0:=ak hb0 hb1
   clear hb1
   have b1:Below w4.heap.size w4 (w4.alloc (.cells #[.func (.func 285) #[] #[.pointer (some qa)]] 139)):=aj (ah _) _
   have b2:Below w4.heap.size w4 ((w4.alloc (.cells #[.func (.func 285) #[] #[.pointer (some qa)]] 139)).alloc (.cells #[.func (.func 285) #[] #[.pointer (some qb)]] 139)):=aj b1 _
   have b3:Below w4.heap.size w4 (((w4.alloc (.cells #[.func (.func 285) #[] #[.pointer (some qa)]] 139)).alloc (.cells #[.func (.func 285) #[] #[.pointer (some qb)]] 139)).alloc (.cells #[.slice p a.length ca,.slice q b.length cb] 294)):=aj b2 _
   have i1:(((w4.alloc (.cells #[.func (.func 285) #[] #[.pointer (some qa)]] 139)).alloc (.cells #[.func (.func 285) #[] #[.pointer (some qb)]] 139)).alloc (.cells #[.slice p a.length ca,.slice q b.length cb] 294)).cell? ⟨w4.heap.size,0,none⟩=some (.func (.func 285) #[] #[.pointer (some qa)]):=by
    rw[World.cell?_alloc_lt _ _ _ (by simp;omega),World.cell?_alloc_lt _ _ _ (by simp)];simp
   have i2:(((w4.alloc (.cells #[.func (.func 285) #[] #[.pointer (some qa)]] 139)).alloc (.cells #[.func (.func 285) #[] #[.pointer (some qb)]] 139)).alloc (.cells #[.slice p a.length ca,.slice q b.length cb] 294)).cell? ⟨w4.heap.size+1,0,none⟩=some (.func (.func 285) #[] #[.pointer (some qb)]):=by
    rw[World.cell?_alloc_lt _ _ _ (by simp)];simp
   have i3:(((w4.alloc (.cells #[.func (.func 285) #[] #[.pointer (some qa)]] 139)).alloc (.cells #[.func (.func 285) #[] #[.pointer (some qb)]] 139)).alloc (.cells #[.slice p a.length ca,.slice q b.length cb] 294)).cell? ⟨w4.heap.size+1+1,0,none⟩=some (.slice p a.length ca):=by rw[World.cell?_alloc_at _ _ _ _ (by simp)];rfl
   have i4:(((w4.alloc (.cells #[.func (.func 285) #[] #[.pointer (some qa)]] 139)).alloc (.cells #[.func (.func 285) #[] #[.pointer (some qb)]] 139)).alloc (.cells #[.slice p a.length ca,.slice q b.length cb] 294)).cell? ⟨w4.heap.size+1+1,1,none⟩=some (.slice q b.length cb):=by rw[World.cell?_alloc_at _ _ _ _ (by simp)];rfl
   have i5:w4.heap.size+1+1<(((w4.alloc (.cells #[.func (.func 285) #[] #[.pointer (some qa)]] 139)).alloc (.cells #[.func (.func 285) #[] #[.pointer (some qb)]] 139)).alloc (.cells #[.slice p a.length ca,.slice q b.length cb] 294)).heap.size:=by simp
   go_wp2_with fail
   generalize (((w4.alloc (.cells #[.func (.func 285) #[] #[.pointer (some qa)]] 139)).alloc (.cells #[.func (.func 285) #[] #[.pointer (some qb)]] 139)).alloc (.cells #[.slice p a.length ca,.slice q b.length cb] 294))=W5 at *
   have hcl:Cl W5 265 ⟨w.heap.size,0,none⟩ ⟨w4.heap.size,0,none⟩ ⟨w4.heap.size+1,0,none⟩ qa qb a b:=⟨(b3.cell (World.block_lt_of_cell? _ _ hk0)).trans hk0,i1,i2,hqa.step b3,hqb.step b3⟩
   have hL:zy W5 (w4.heap.size+1+1) [(p,ca,a),(q,cb,b)]:=⟨i5,fun j x hx=>by
    match j,hx with
    | 0,hx=>simp at hx;subst hx;exact⟨i3,ha0.step b3,h64a⟩
    | 1,hx=>simp at hx;subst hx;exact⟨i4,hb0'.step b3,h64b⟩⟩
   replace hb0:=ak hb0 b3
   clear b1 b2 b3 i1 i2 i3 i4 i5 ha0 hb0' hk0 hqa hqb
   refine (edges (w4.heap.size+1+1) 2 [(p,ca,a),(q,cb,b)] W5 (by simp) hL (by rw[aeQ];exact hIn)).mono ?_
   rintro e w6 ⟨q6,cap6,rfl,hq6,hb6⟩
   rw[aeQ,Bur.iY] at hq6
   rw[aeQ,Bur.iY]
   replace hcl:=hcl.step hb6
   replace hb0:=ak hb0 hb6
   clear hL hb6
   have hBz:∀z∈Bur.srt (Bur.edg a++Bur.edg b),0<=z/\z<=4294967296:=fun z hz=>Bur.MF hIn z (by rw[Bur.iY];exact (Bur.Vb _ _).1 hz)
   have hLz:(Bur.srt (Bur.edg a++Bur.edg b)).length<=1000000:=by rw[Bur.Uk,List.length_append,Bur.BQ,Bur.BQ];omega
   go_wp2_with fail
   refine (abD (fun x=>Bur.kp 3 (Bur.mem a x) (Bur.mem b x)) q6 cap6 (Bur.srt (Bur.edg a++Bur.edg b)) ⟨w.heap.size,0,none⟩ ⟨w4.heap.size,0,none⟩ ⟨w4.heap.size+1,0,none⟩ w6 hLz hq6 hBz (fun x w1 h1=>ah8 x _ _ _ qa qb a b w1 (hcl.step h1))).mono ?_
   rintro e w7 ⟨q7,cap7,rfl,hq7,hb7⟩
   change aU w7 q7 (Bur.two 3 a b) at hq7
   have hT:Hid (Bur.gt (fun x=>Bur.kp 3 (Bur.mem a x) (Bur.mem b x)) none (Bur.srt (Bur.edg a++Bur.edg b))=Bur.two 3 a b):=rfl
   rw[hT.out]
   clear hT
   replace hb0:=ak hb0 hb7
   clear hcl hb7 hq6 hBz hLz
   generalize hm:Bur.two 3 a b=m at *
   have HM:Hid (Bur.two 3 a b=m):=hm
   clear hm
   by_cases h64:64<m.length
   ·have F2:Hid (Bur.twF 3 a b=3):=by show _=_;rw[F1.out,if_pos h64]
    have F3:Hid (Bur.twS 3 a b=[]):=if_neg (by rw[F2.out];decide)
    clear F1
    go_wp2_with fail
    go_ret2
    rw[F2.out,F3.out]
    exact⟨none,0,rfl,aU.nil _ _,hb0⟩
   ·have F2:Hid (Bur.twF 3 a b=0):=by show _=_;rw[F1.out,if_neg h64]
    have F3:Hid (Bur.twS 3 a b=m):=by show _=_;unfold Bur.twS;rw[if_pos F2.out,HM.out]
    clear F1
    go_wp2_with fail
    go_ret2
    rw[F2.out,F3.out]
    exact⟨q7,cap7,rfl,hq7,hb0⟩
  ·have E:Bur.twF 3 a b=Bur.gX b:=by simp[Bur.twF,fa,fb]
   have E2:Bur.twS 3 a b=[]:=if_neg (by rw[E];exact fb)
   have evb:Hid (ev (Bur.gX b)=aC (Bur.gX b)):=if_neg fb
   rw[E,E2]
   clear fa E E2 ha hb
   go_enter Tryz.func264,Tryz.ntmps264
   go_wp2_with fail
   generalize w.alloc (.cells #[.func (.func 265) #[] #[]] 360)=W0 at *
   refine (check p ca a _ hla ha0).mono ?_;rintro e w1 ⟨rfl,hb1⟩;rw[eva.out]
   go_wp2_with fail
   refine (check q cb b _ hlb (hb0'.step hb1)).mono ?_;rintro e w2 ⟨rfl,hb2⟩;rw[evb.out]
   go_wp2_with fail
   go_ret2
   exact⟨none,0,by rw[evb.out];rfl,aU.nil _ _,ak (ak hb0 hb1) hb2⟩
 ·have E:Bur.twF 3 a b=Bur.gX a:=by simp[Bur.twF,fa]
  have E2:Bur.twS 3 a b=[]:=if_neg (by rw[E];exact fa)
  have eva:Hid (ev (Bur.gX a)=aC (Bur.gX a)):=if_neg fa
  rw[E,E2]
  clear E E2 ha hb hb0'
  go_enter Tryz.func264,Tryz.ntmps264
  go_wp2_with fail
  generalize w.alloc (.cells #[.func (.func 265) #[] #[]] 360)=W0 at *
  refine (check p ca a _ hla ha0).mono ?_;rintro e w1 ⟨rfl,hb1⟩;rw[eva.out]
  go_wp2_with fail
  go_ret2
  exact⟨none,0,by rw[eva.out];rfl,aU.nil _ _,ak hb0 hb1⟩
theorem Vz (p:Option Addr)(ca:Nat)(a:List Bur.Sp)(q:Option Addr)(cb:Nat)(b:List Bur.Sp)(w:World)(hla:a.length<=9223372036854775807)(hlb:b.length<=9223372036854775807)(ha:aU w p a)(hb:aU w q b) :
  Calls Tryz.prog 253 #[.slice p a.length ca,.slice q b.length cb] w fun e w'=>∃(r:Option Addr) (cr:Nat),e=.returned (.tuple #[.slice r (Bur.twS 3 a b).length cr,ev (Bur.twF 3 a b)])/\aU w' r (Bur.twS 3 a b)/\Below w.heap.size w w':=by
 go_enter Tryz.func253,Tryz.ntmps253
 go_wp2_with fail
 refine (XF p ca a q cb b w hla hlb ha hb).mono ?_
 rintro e w1 ⟨r,cr,rfl,h1,hb1⟩
 go_wp2_with fail
 go_ret2
 exact⟨r,cr,rfl,h1,hb1⟩
