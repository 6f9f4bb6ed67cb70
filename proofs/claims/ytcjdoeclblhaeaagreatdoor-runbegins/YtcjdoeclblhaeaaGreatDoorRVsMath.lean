/- -/
import Derived.Lib.Strings
namespace Vs
open Go
structure Ver where
 k:ByteArray
 v:ByteArray
 n:Int
 g:Bool
deriving DecidableEq
def bl (a b:ByteArray):Bool:=Op.bytesLess a.toList b.toList
theorem toL {a b:ByteArray}:a.toList=b.toList↔a=b:=by
 constructor
 ·intro h
  rw[Lib.toList_data,Lib.toList_data] at h
  cases a;cases b
  simpa using congrArg List.toArray h
 ·rintro rfl;rfl
theorem beq_str (a b:ByteArray):(a.toList==b.toList)=decide (a=b):=by
 by_cases h:a=b
 ·subst h;simp
 ·rw[decide_eq_false h]
  have:a.toList≠b.toList:=fun g=>h (toL.1 g)
  simpa using this
theorem bls_irr:∀ x:List UInt8,Op.bytesLess x x=false
 | []=>rfl
 | a :: x=>by simp[Op.bytesLess,bls_irr x,UInt8.lt_irrefl]
theorem bls_trans:∀ x y z:List UInt8,Op.bytesLess x y=true->Op.bytesLess y z=true->Op.bytesLess x z=true
 | [],[],_,h,_=>by simp[Op.bytesLess] at h
 | [],_ :: _,[],_,h=>by simp[Op.bytesLess] at h
 | [],_ :: _,_ :: _,_,_=>by simp[Op.bytesLess]
 | _ :: _,[],_,h,_=>by simp[Op.bytesLess] at h
 | _ :: _,_ :: _,[],_,h=>by simp[Op.bytesLess] at h
 | a :: x,b :: y,c :: z,h1,h2=>by
  simp only [Op.bytesLess,Bool.or_eq_true,Bool.and_eq_true,decide_eq_true_eq,beq_iff_eq] at h1 h2 ⊢
  rcases h1 with h1|⟨rfl,h1⟩
  ·rcases h2 with h2|⟨rfl,h2⟩
   ·exact .inl (UInt8.lt_trans h1 h2)
   ·exact .inl h1
  ·rcases h2 with h2|⟨rfl,h2⟩
   ·exact .inl h2
   ·exact .inr ⟨rfl,bls_trans x y z h1 h2⟩
theorem bls_tri:∀ x y:List UInt8,Op.bytesLess x y=false->Op.bytesLess y x=false->x=y
 | [],[],_,_=>rfl
 | [],_ :: _,h,_=>by simp[Op.bytesLess] at h
 | _ :: _,[],_,h=>by simp[Op.bytesLess] at h
 | a :: x,b :: y,h1,h2=>by
  simp only [Op.bytesLess,Bool.or_eq_false_iff,Bool.and_eq_false_iff,decide_eq_false_iff_not,beq_eq_false_iff_ne] at h1 h2
  have e:a=b:=UInt8.le_antisymm (UInt8.not_lt.1 h2.1) (UInt8.not_lt.1 h1.1)
  subst e
  have h1':=h1.2.resolve_left (fun g=>g rfl)
  have h2':=h2.2.resolve_left (fun g=>g rfl)
  rw[bls_tri x y h1' h2']
theorem bl_irr (a:ByteArray):bl a a=false:=bls_irr _
theorem bl_trans {a b c:ByteArray} (h1:bl a b=true) (h2:bl b c=true):bl a c=true:=bls_trans _ _ _ h1 h2
theorem bl_tri {a b:ByteArray} (h1:bl a b=false) (h2:bl b a=false):a=b:=toL.1 (bls_tri _ _ h1 h2)
theorem bl_asym {a b:ByteArray} (h1:bl a b=true):bl b a=false:=by
 cases h:bl b a
 ·rfl
 ·have:=bl_trans h1 h;rw[bl_irr] at this;cases this
theorem bl_ne {a b:ByteArray} (h:bl a b=true):a≠b:=fun e=>by rw[e,bl_irr] at h;cases h
theorem memF {α : Type} {p : α -> Bool} {l:List α} {x : α} (h:x∈l.filter p):x∈l:=(List.mem_filter.1 h).1
def btw (lo hi k:ByteArray):Bool := !bl k lo&&bl k hi
def OkV (x:Ver):Prop:=1<=x.k.size/\x.k.size<=24/\x.v.size<=12/\1<=x.n/\x.n<=1000000
structure OkT (l:List Ver) (top:Int):Prop where
 each:∀ x∈l,OkV x/\x.n<=top
 rise:l.Pairwise (fun x y=>x.n<=y.n)
 once:l.Pairwise (fun x y=>¬ (x.k=y.k/\x.n=y.n))
 t0:0<=top
 t1:top<=1000000
theorem OkT.nil:OkT [] 0:=⟨fun _ h=>by simp at h,.nil,.nil,by decide,by decide⟩
def shF (k v:ByteArray):Int:=if k.size<1 \/ 24<k.size \/ 12<v.size then 2 else 0
def ptF (x:Ver) (top:Int):Int:=if shF x.k x.v=0 then (if x.n<1 \/ 1000000<x.n then 1 else if x.n<top then 7 else 0) else 2
theorem ptF_ok {x:Ver} {top:Int} (h:ptF x top=0):OkV x/\top<=x.n:=by
 unfold ptF shF at h
 by_cases h1:x.k.size<1 \/ 24<x.k.size \/ 12<x.v.size
 ·rw[if_pos h1] at h;simp at h
 ·rw[if_neg h1,if_pos rfl] at h
  by_cases h2:x.n<1 \/ 1000000<x.n
  ·rw[if_pos h2] at h;cases h
  ·rw[if_neg h2] at h
   by_cases h3:x.n<top
   ·rw[if_pos h3] at h;cases h
   ·exact⟨⟨by omega,by omega,by omega,by omega,by omega⟩,by omega⟩
def same (x y:Ver):Bool:=decide (y.k=x.k)&&decide (y.n=x.n)
def vput (l:List Ver) (x:Ver):List Ver:=l.filter (fun y => !same x y) ++ [x]
theorem OkT.put {l:List Ver} {top:Int} {x:Ver} (h:OkT l top) (hx:ptF x top=0):OkT (vput l x) x.n:=by
 obtain⟨hv,ht⟩:=ptF_ok hx
 have h0:=h.t0
 refine⟨fun y hy=>?_,?_,?_,by omega,hv.2.2.2.2⟩
 ·rcases List.mem_append.1 hy with hy|hy
  ·obtain⟨g1,g2⟩:=h.each y (memF hy)
   exact⟨g1,by omega⟩
  ·rw[List.mem_singleton.1 hy];exact⟨hv,Int.le_refl _⟩
 ·refine List.pairwise_append.2 ⟨h.rise.filter _,List.pairwise_singleton _ _,fun y hy z hz=>?_⟩
  rw[List.mem_singleton.1 hz]
  have:=(h.each y (memF hy)).2
  omega
 ·refine List.pairwise_append.2 ⟨h.once.filter _,List.pairwise_singleton _ _,fun y hy z hz=>?_⟩
  rw[List.mem_singleton.1 hz]
  have:=(List.mem_filter.1 hy).2
  rintro ⟨e1,e2⟩
  simp[same,e1,e2] at this
def hit (k:ByteArray) (a:Int) (x:Ver):Bool:=decide (x.k=k)&&decide (x.n<=a)
def see (l:List Ver) (k:ByteArray) (a:Int):Option Ver:=(l.filter (hit k a)).getLast?
theorem see_some {l:List Ver} {k:ByteArray} {a:Int} {x:Ver} (h:see l k a=some x):x∈l/\x.k=k/\x.n<=a:=by
 have:=List.mem_of_getLast? h
 rw[List.mem_filter] at this
 simpa [hit] using this
def vget (l:List Ver) (k:ByteArray) (a:Int):Option ByteArray:=match see l k a with
 | some x=>if x.g=true then none else some x.v
 | none=>none
theorem vget_some {l:List Ver} {k:ByteArray} {a:Int} {v:ByteArray}:vget l k a=some v ↔ ∃ x,see l k a=some x/\x.g=false/\x.v=v:=by
 unfold vget
 cases e:see l k a with
 | none=>simp
 | some x=>
  by_cases h:x.g=true
  ·simp[h]
  ·simp[h]
def kept (l:List Ver) (a:Int) (x:Ver):Bool:=decide (a<x.n) || (decide (see l x.k a=some x) && !x.g)
end Vs
namespace Vs
open Go
abbrev Pr:=ByteArray×ByteArray
def rises (r:List Pr):Prop:=r.Pairwise (fun p q=>bl p.1 q.1=true)
theorem rises_uniq:∀ {r s:List Pr},rises r->rises s->(∀ p,p∈r↔p∈s)->r=s
 | [],[],_,_,_=>rfl
 | [],q :: s,_,_,h=>by have:=(h q).2 (by simp);simp at this
 | p :: r,[],_,_,h=>by have:=(h p).1 (by simp);simp at this
 | p :: r,q :: s,hr,hs,h=>by
  obtain⟨h1,h2⟩:=List.pairwise_cons.1 hr
  obtain⟨g1,g2⟩:=List.pairwise_cons.1 hs
  have e:p=q:=by
   rcases List.mem_cons.1 ((h p).1 (by simp)) with e|e
   ·exact e
   ·rcases List.mem_cons.1 ((h q).2 (by simp)) with e'|e'
    ·exact e'.symm
    ·have a1:=g1 p e
     have a2:=h1 q e'
     rw[bl_asym a1] at a2;cases a2
  subst e
  have:r=s:=rises_uniq h2 g2 (fun x=>by
   have hx:=h x
   constructor
   ·intro m
    rcases List.mem_cons.1 (hx.1 (by simp[m])) with e|e
    ·subst e;have:=h1 x m;rw[bl_irr] at this;cases this
    ·exact e
   ·intro m
    rcases List.mem_cons.1 (hx.2 (by simp[m])) with e|e
    ·subst e;have:=g1 x m;rw[bl_irr] at this;cases this
    ·exact e)
  rw[this]
def insP:List Pr->Pr->List Pr
 | [],p=>[p]
 | q :: r,p=>if bl p.1 q.1=true then p :: q :: r else q :: insP r p
theorem mem_insP:∀ {r:List Pr} {p x:Pr},x∈insP r p↔x=p \/ x∈r
 | [],p,x=>by simp[insP]
 | q :: r,p,x=>by
  rw[insP]
  split
  ·simp
  ·rw[List.mem_cons,mem_insP,List.mem_cons]
   constructor
   ·rintro (h|h|h)
    ·exact .inr (.inl h)
    ·exact .inl h
    ·exact .inr (.inr h)
   ·rintro (h|h|h)
    ·exact .inr (.inl h)
    ·exact .inl h
    ·exact .inr (.inr h)
theorem len_insP:∀ (r:List Pr) (p:Pr),(insP r p).length=r.length+1
 | [],_=>rfl
 | q :: r,p=>by
  rw[insP]
  split
  ·simp
  ·simp[len_insP r p]
theorem rises_insP:∀ {r:List Pr} {p:Pr},rises r->(∀ q∈r,q.1≠p.1)->rises (insP r p)
 | [],p,_,_=>List.pairwise_singleton _ _
 | q :: r,p,h,hn=>by
  obtain⟨h1,h2⟩:=List.pairwise_cons.1 h
  rw[insP]
  split
  ·rename_i c
   refine List.pairwise_cons.2 ⟨fun x hx=>?_,h⟩
   rcases List.mem_cons.1 hx with rfl|hx
   ·exact c
   ·exact bl_trans c (h1 x hx)
  ·rename_i c
   have c':bl p.1 q.1=false:=by simpa using c
   refine List.pairwise_cons.2 ⟨fun x hx=>?_,rises_insP h2 (fun y hy=>hn y (by simp[hy]))⟩
   rcases mem_insP.1 hx with rfl|hx
   ·cases e:bl q.1 x.1
    ·exact absurd (bl_tri e c') (hn q (by simp))
    ·rfl
   ·exact h1 x hx
def told (l:List Ver) (lo hi:ByteArray) (a:Int) (x:Ver):Bool:=btw lo hi x.k && !x.g&&decide (see l x.k a=some x)
def vrng (l:List Ver) (lo hi:ByteArray) (a:Int):List Pr:=(l.filter (told l lo hi a)).foldl (fun r x=>insP r (x.k,x.v)) []
theorem fold_ins:∀ (m:List Ver) (r:List Pr),rises r->(∀ x∈m,∀ q∈r,q.1≠x.k)->m.Pairwise (fun x y=>x.k≠y.k) →
  rises (m.foldl (fun r x=>insP r (x.k,x.v)) r) /\ ∀ p,p∈m.foldl (fun r x=>insP r (x.k,x.v)) r↔p∈r \/ ∃ x∈m,p=(x.k,x.v)
 | [],r,h,_,_=>⟨h,fun p=>by simp⟩
 | x :: m,r,h,hn,hp=>by
  obtain⟨h1,h2⟩:=List.pairwise_cons.1 hp
  obtain⟨i1,i2⟩:=fold_ins m (insP r (x.k,x.v)) (rises_insP h (hn x (by simp))) (fun y hy q hq=>by
   rcases mem_insP.1 hq with rfl|hq
   ·exact h1 y hy
   ·exact hn y (by simp[hy]) q hq) h2
  refine⟨i1,fun p=>?_⟩
  rw[List.foldl_cons,i2 p,mem_insP]
  constructor
  ·rintro ((h|h)|⟨y,hy,h⟩)
   ·exact .inr ⟨x,by simp,h⟩
   ·exact .inl h
   ·exact .inr ⟨y,by simp[hy],h⟩
  ·rintro (h|⟨y,hy,h⟩)
   ·exact .inl (.inr h)
   ·rcases List.mem_cons.1 hy with rfl|hy
    ·exact .inl (.inl h)
    ·exact .inr ⟨y,hy,h⟩
theorem vrng_is {l:List Ver} {top:Int} (hT:OkT l top) (lo hi:ByteArray) (a:Int):rises (vrng l lo hi a) /\ ∀ p,p∈vrng l lo hi a↔btw lo hi p.1=true/\vget l p.1 a=some p.2:=by
 have hk:(l.filter (told l lo hi a)).Pairwise (fun x y=>x.k≠y.k):=by
  refine (hT.once.filter (told l lo hi a)).imp_of_mem (fun {x y} hx hy h=>?_)
  intro e
  have h1:=(List.mem_filter.1 hx).2
  have h2:=(List.mem_filter.1 hy).2
  simp only [told,Bool.and_eq_true,decide_eq_true_eq] at h1 h2
  rw[e,h2.2] at h1
  exact h ⟨e,by rw[Option.some.inj h1.2]⟩
 obtain⟨h1,h2⟩:=fold_ins (l.filter (told l lo hi a)) [] .nil (fun _ _ q hq=>by simp at hq) hk
 refine⟨h1,fun p=>?_⟩
 rw[vrng,h2 p,vget_some]
 constructor
 ·rintro (h|⟨x,hx,rfl⟩)
  ·simp at h
  ·have h3:=(List.mem_filter.1 hx).2
   simp only [told,Bool.and_eq_true,decide_eq_true_eq,Bool.not_eq_true'] at h3
   exact⟨h3.1.1,x,h3.2,h3.1.2,rfl⟩
 ·rintro ⟨h3,x,h4,h5,h6⟩
  obtain⟨g1,g2,g3⟩:=see_some h4
  refine .inr ⟨x,List.mem_filter.2 ⟨g1,?_⟩,?_⟩
  ·simp only [told,Bool.and_eq_true,decide_eq_true_eq,Bool.not_eq_true']
   rw[g2];exact⟨⟨h3,h5⟩,h4⟩
  ·rw[g2,h6]
theorem fold_len:∀ (m:List Ver) (r:List Pr),(m.foldl (fun r x=>insP r (x.k,x.v)) r).length=r.length+m.length
 | [],r=>by simp
 | x :: m,r=>by rw[List.foldl_cons,fold_len m,len_insP,List.length_cons];omega
theorem vrng_len (l:List Ver) (lo hi:ByteArray) (a:Int):(vrng l lo hi a).length<=l.length:=by
 rw[vrng,fold_len]
 simpa using List.length_filter_le _ _
def vtch (l:List Ver) (lo hi:ByteArray) (a:Int):Bool:=l.any (fun x=>btw lo hi x.k&&decide (a<x.n))
def atF (a:Int):Int:=if a<0 \/ 1000000<a then 1 else 0
def gtF (l:List Ver) (k:ByteArray) (a:Int):Int:=if atF a=0 then (if (vget l k a).isSome=true then 0 else 4) else 1
def gtS (l:List Ver) (k:ByteArray) (a:Int):ByteArray:=if atF a=0 then (vget l k a).getD ByteArray.empty else ByteArray.empty
def rgS (l:List Ver) (lo hi:ByteArray) (a:Int):List Pr:=if atF a=0 then vrng l lo hi a else []
def tcS (l:List Ver) (lo hi:ByteArray) (a:Int):Bool:=if atF a=0 then vtch l lo hi a else false
end Vs
namespace Vs
open Go
structure Chg where
 k:ByteArray
 v:ByteArray
 g:Bool
deriving DecidableEq
def chW (c:Chg):Bool:=decide (shF c.k c.v≠0) || (c.g&&decide (0<c.v.size))
def chG:Option ByteArray->List Chg->Int
 | _,[]=>0
 | none,c :: r=>if chW c=true then 2 else chG (some c.k) r
 | some p,c :: r=>if chW c=true \/ bl p c.k=false then 2 else chG (some c.k) r
def chF (l:List Chg):Int:=if 20<l.length then 3 else chG none l
theorem chW_ok {c:Chg} (h:chW c=false):1<=c.k.size/\c.k.size<=24/\c.v.size<=12/\(c.g=true->c.v.size=0):=by
 simp only [chW,Bool.or_eq_false_iff,decide_eq_false_iff_not,Bool.and_eq_false_iff,Decidable.not_not] at h
 obtain⟨h1,h2⟩:=h
 have h3:¬ (c.k.size<1 \/ 24<c.k.size \/ 12<c.v.size):=fun g=>by
  unfold shF at h1;rw[if_pos g] at h1;cases h1
 refine⟨by omega,by omega,by omega,fun g=>?_⟩
 rcases h2 with h2|h2
 ·rw[g] at h2;cases h2
 ·omega
theorem chG_ok:∀ {p:Option ByteArray} {l:List Chg},chG p l=0 -> ∀ c∈l,chW c=false
 | none,x :: r,h,c,hc=>by
  rw[chG] at h
  split at h
  ·cases h
  ·rename_i e
   rcases List.mem_cons.1 hc with rfl|hc
   ·simpa using e
   ·exact chG_ok h c hc
 | some p,x :: r,h,c,hc=>by
  rw[chG] at h
  split at h
  ·cases h
  ·rename_i e
   rcases List.mem_cons.1 hc with rfl|hc
   ·have:¬ chW c=true:=fun g=>e (.inl g)
    simpa using this
   ·exact chG_ok h c hc
theorem chF_ok {l:List Chg} (h:chF l=0):l.length<=20 /\ ∀ c∈l,chW c=false:=by
 unfold chF at h
 split at h
 ·cases h
 ·exact⟨by omega,chG_ok h⟩
def encC (c:Chg):List UInt8:=UInt8.ofNat (c.k.size+if c.g=true then 128 else 0) :: (c.k.data.toList++if c.g=true then [] else UInt8.ofNat c.v.size :: c.v.data.toList)
def encL (l:List Chg):List UInt8:=UInt8.ofNat l.length :: l.flatMap encC
def mkB (l:List UInt8):ByteArray:=⟨l.toArray⟩
theorem mkB_list (l:List UInt8):(mkB l).data.toList=l:=by simp[mkB]
theorem mkB_size (l:List UInt8):(mkB l).size=l.length:=by simp[mkB,ByteArray.size]
theorem mkB_data (b:ByteArray):mkB b.data.toList=b:=by
 cases b with
 | mk d=>show ByteArray.mk d.toList.toArray=_;rw[Array.toArray_toList]
theorem data_len (b:ByteArray):b.data.toList.length=b.size:=rfl
def decC:List UInt8->Option (Chg×List UInt8)
 | []=>none
 | n :: r=>if r.length<n.toNat % 128 then none else
   if 127<n.toNat then some (⟨mkB (r.take (n.toNat % 128)),ByteArray.empty,true⟩,r.drop (n.toNat % 128)) else
   match r.drop (n.toNat % 128) with
   | []=>none
   | q :: s=>if s.length<q.toNat then none else some (⟨mkB (r.take (n.toNat % 128)),mkB (s.take q.toNat),false⟩,s.drop q.toNat)
def decN:Nat->List UInt8->Option (List Chg×List UInt8)
 | 0,r=>some ([],r)
 | k+1,r=>match decC r with
  | some (c,s)=>match decN k s with
   | some (l,t)=>some (c :: l,t)
   | none=>none
  | none=>none
def dec:List UInt8->Option (List Chg)
 | []=>none
 | n :: r=>match decN n.toNat r with
  | some (l,[])=>if chF l=0 then some l else none
  | _=>none
theorem decC_enc {c:Chg} (h:chW c=false) (r:List UInt8):decC (encC c++r)=some (c,r):=by
 obtain⟨h1,h2,h3,h4⟩:=chW_ok h
 obtain⟨k,v,g⟩:=c
 simp only at h1 h2 h3 h4
 have hk:=data_len k
 have hv:=data_len v
 cases g
 ·have e1:(UInt8.ofNat (k.size+0)).toNat=k.size:=by simp;omega
  have e2:(UInt8.ofNat v.size).toNat=v.size:=by simp;omega
  simp only [encC,Bool.false_eq_true,if_false,List.cons_append,List.append_assoc,decC,e1]
  rw[Nat.mod_eq_of_lt (by omega),if_neg (by simp[hk]),if_neg (by omega),List.drop_append_of_le_length (by omega),List.drop_of_length_le (by omega),List.nil_append]
  simp only [e2]
  rw[if_neg (by simp[hv]),List.take_append_of_le_length (by omega),List.take_of_length_le (by omega),List.take_append_of_le_length (by omega),List.take_of_length_le (by omega),List.drop_append_of_le_length (by omega),List.drop_of_length_le (by omega),List.nil_append,mkB_data,mkB_data]
 ·have e1:(UInt8.ofNat (k.size+128)).toNat=k.size+128:=by simp;omega
  have e3:v=ByteArray.empty:=by
   have h0:=h4 rfl
   cases v with
   | mk d=>
    have:d=#[]:=by simpa [ByteArray.size] using h0
    rw[this];rfl
  subst e3
  simp only [encC,if_true,List.cons_append,List.append_nil,decC,e1]
  rw[show (k.size+128) % 128=k.size from by omega,if_neg (by simp[hk]),if_pos (by omega),List.take_append_of_le_length (by omega),List.take_of_length_le (by omega),List.drop_append_of_le_length (by omega),List.drop_of_length_le (by omega),List.nil_append,mkB_data]
theorem decN_enc:∀ (l:List Chg),(∀ c∈l,chW c=false) -> ∀ r,decN l.length (l.flatMap encC++r)=some (l,r)
 | [],_,r=>rfl
 | c :: l,h,r=>by
  rw[List.flatMap_cons,List.append_assoc,List.length_cons,decN,decC_enc (h c (by simp))]
  simp only [decN_enc l (fun x hx=>h x (by simp[hx])) r]
theorem dec_enc {l:List Chg} (h:chF l=0) (r:List UInt8):dec (encL l++r)=if r=[] then some l else none:=by
 obtain⟨h1,h2⟩:=chF_ok h
 have e1:(UInt8.ofNat l.length).toNat=l.length:=by simp;omega
 rw[encL,List.cons_append,dec,e1,decN_enc l h2 r]
 cases r with
 | nil=>simp[h]
 | cons x s=>simp
theorem ofNat_toNat (n:UInt8):UInt8.ofNat n.toNat=n:=by simp
theorem decC_sound {b:List UInt8} {c:Chg} {r:List UInt8} (h:decC b=some (c,r)):b=encC c++r:=by
 match b,h with
 | n :: s,h=>
  rw[decC] at h
  have hn:=n.toNat_lt
  split at h
  ·cases h
  ·rename_i h1
   split at h
   ·rename_i h2
    simp only [Option.some.injEq,Prod.mk.injEq] at h
    obtain⟨rfl,rfl⟩:=h
    simp only [encC,if_true,mkB_size,mkB_list,List.append_nil,List.cons_append,List.take_append_drop,List.length_take]
    congr 1
    rw[show min (n.toNat % 128) s.length+128=n.toNat from by omega]
    exact (ofNat_toNat n).symm
   ·rename_i h2
    split at h
    ·cases h
    ·rename_i q t e
     split at h
     ·cases h
     ·rename_i h3
      simp only [Option.some.injEq,Prod.mk.injEq] at h
      obtain⟨rfl,rfl⟩:=h
      simp only [encC,Bool.false_eq_true,if_false,mkB_size,mkB_list,List.cons_append,List.append_assoc,List.take_append_drop,List.length_take]
      have e4:min (n.toNat % 128) s.length+0=n.toNat:=by omega
      have e5:min q.toNat t.length=q.toNat:=by omega
      rw[e4,e5,ofNat_toNat,ofNat_toNat,<- e,List.take_append_drop]
theorem decN_sound:∀ {k:Nat} {b:List UInt8} {l:List Chg} {r:List UInt8},decN k b=some (l,r)->l.length=k/\b=l.flatMap encC++r
 | 0,b,l,r,h=>by
  simp only [decN,Option.some.injEq,Prod.mk.injEq] at h
  obtain⟨rfl,rfl⟩:=h
  exact⟨rfl,rfl⟩
 | k+1,b,l,r,h=>by
  rw[decN] at h
  split at h
  ·rename_i c s e
   split at h
   ·rename_i m t e2
    simp only [Option.some.injEq,Prod.mk.injEq] at h
    obtain⟨rfl,rfl⟩:=h
    obtain⟨i1,i2⟩:=decN_sound e2
    exact⟨by simp[i1],by rw[decC_sound e,i2];simp⟩
   ·cases h
  ·cases h
theorem dec_sound {b:List UInt8} {l:List Chg} (h:dec b=some l):chF l=0/\b=encL l:=by
 match b,h with
 | n :: r,h=>
  rw[dec] at h
  split at h
  ·rename_i m e
   split at h
   ·rename_i h1
    cases h
    obtain⟨i1,i2⟩:=decN_sound e
    exact⟨h1,by rw[encL,i1,ofNat_toNat,i2];simp⟩
   ·cases h
  ·cases h
end Vs
namespace Vs
open Go
def fr (l:List Chg):List UInt8:=UInt8.ofNat ((encL l).length / 256) :: UInt8.ofNat ((encL l).length % 256) :: encL l
theorem fr_len (l:List Chg):(fr l).length=(encL l).length+2:=rfl
theorem encL_pos (l:List Chg):0<(encL l).length:=by simp[encL]
def frs (ls:List (List Chg)):List UInt8:=ls.flatMap fr
theorem frs_cons (l:List Chg) (ls:List (List Chg)):frs (l :: ls)=fr l++frs ls:=rfl
theorem frs_app (ls ms:List (List Chg)):frs (ls++ms)=frs ls++frs ms:=by simp[frs]
theorem frs_one (l:List Chg):frs [l]=fr l:=by simp[frs]
theorem frs_len:∀ ls:List (List Chg),ls.length*3<=(frs ls).length
 | []=>Nat.zero_le _
 | l :: ls=>by
  have:=frs_len ls
  have h:=encL_pos l
  rw[frs_cons,List.length_append,fr_len,List.length_cons];omega
structure Lg where
 room:Int
 ls:List (List Chg)
 tl:List UInt8
 safe:Nat
 left:Int
 down:Bool
def Lg.by (g:Lg):List UInt8:=frs g.ls++g.tl
def lg0 (room:Int):Lg:=⟨room,[],[],0,-1,false⟩
structure OkL (g:Lg):Prop where
 r0:0<=g.room
 r1:g.room<=100000
 len:(g.by.length:Int)<=g.room
 each:∀ l∈g.ls,chF l=0
 tail:g.tl=[] \/ (g.down=true /\ ∃ l,chF l=0/\g.tl=(fr l).take ((fr l).length / 2))
 safe:g.safe<=(frs g.ls).length
 left : -1<=g.left
 lmax:g.left<=9223372036854775807
theorem OkL.new {room:Int} (h0:0<=room) (h1:room<=100000):OkL (lg0 room):=⟨h0,h1,by simpa [Lg.by,lg0,frs] using h0,fun l h=>by simp[lg0] at h,.inl rfl,Nat.zero_le _,Int.le_refl _,by show (-1:Int)<=_;decide⟩
theorem OkL.few {g:Lg} (h:OkL g):g.ls.length<=33334/\g.by.length<=100000/\(frs g.ls).length<=g.by.length:=by
 have h1:=frs_len g.ls
 have h2:=h.len
 have h3:=h.r1
 have h4:g.by.length=(frs g.ls).length+g.tl.length:=by rw[Lg.by,List.length_append]
 omega
theorem OkL.up {g:Lg} (h:OkL g) (hd:g.down=false):g.tl=[]/\g.by=frs g.ls:=by
 have:g.tl=[]:=by
  rcases h.tail with e|⟨e,_⟩
  ·exact e
  ·rw[hd] at e;cases e
 exact⟨this,by rw[Lg.by,this,List.append_nil]⟩
def less (n:Int):Int:=if 0<n then n - 1 else n
theorem less_ge {n:Int} (h : -1<=n) : -1<=less n:=by
 unfold less
 split <;> omega
theorem less_le {n m:Int} (h:n<=m):less n<=m:=by
 unfold less
 split <;> omega
def apF (g:Lg) (l:List Chg):Int:=if chF l=0 then (if g.room<g.by.length+2+(encL l).length then 3 else if g.down=true then 8 else if g.left=0 then 8 else 0) else chF l
def apG (g:Lg) (l:List Chg):Lg:=if chF l=0 then (if g.room<g.by.length+2+(encL l).length then g else if g.down=true then g else if g.left=0 then { g with tl:=(fr l).take ((fr l).length / 2),down:=true } else { g with ls:=g.ls ++ [l],left:=less g.left }) else g
theorem OkL.ap {g:Lg} (h:OkL g) (l:List Chg):OkL (apG g l):=by
 unfold apG
 by_cases h1:chF l=0
 ·rw[if_pos h1]
  by_cases h2:g.room<g.by.length+2+(encL l).length
  ·rw[if_pos h2];exact h
  ·rw[if_neg h2]
   by_cases h3:g.down=true
   ·rw[if_pos h3];exact h
   ·rw[if_neg h3]
    obtain⟨t0,tb⟩:=h.up (by simpa using h3)
    by_cases h4:g.left=0
    ·rw[if_pos h4]
     refine⟨h.r0,h.r1,?_,h.each,.inr ⟨rfl,l,h1,rfl⟩,h.safe,h.left,h.lmax⟩
     show ((frs g.ls++(fr l).take ((fr l).length / 2)).length:Int)<=g.room
     rw[List.length_append,List.length_take,fr_len,<- tb]
     omega
    ·rw[if_neg h4]
     refine⟨h.r0,h.r1,?_,fun m hm=>?_,.inl t0,?_,less_ge h.left,less_le h.lmax⟩
     ·show ((frs (g.ls ++ [l])++g.tl).length:Int)<=g.room
      rw[frs_app,frs_one,t0,List.append_nil,List.length_append,fr_len,<- tb]
      omega
     ·rcases List.mem_append.1 hm with hm|hm
      ·exact h.each m hm
      ·rw[List.mem_singleton.1 hm];exact h1
     ·show g.safe<=(frs (g.ls ++ [l])).length
      rw[frs_app,List.length_append]
      have:=h.safe
      omega
 ·rw[if_neg h1];exact h
def syF (g:Lg):Int:=if g.down=true then 8 else if g.left=0 then 8 else 0
def syG (g:Lg):Lg:=if g.down=true then g else if g.left=0 then { g with down:=true } else { g with safe:=g.by.length,left:=less g.left }
theorem OkL.sy {g:Lg} (h:OkL g):OkL (syG g):=by
 unfold syG
 by_cases h3:g.down=true
 ·rw[if_pos h3];exact h
 ·rw[if_neg h3]
  obtain⟨t0,tb⟩:=h.up (by simpa using h3)
  by_cases h4:g.left=0
  ·rw[if_pos h4];exact⟨h.r0,h.r1,h.len,h.each,.inl t0,h.safe,h.left,h.lmax⟩
  ·rw[if_neg h4];exact⟨h.r0,h.r1,h.len,h.each,.inl t0,by show g.by.length<=(frs g.ls).length;rw[tb];exact Nat.le_refl _,less_ge h.left,less_le h.lmax⟩
def faG (g:Lg) (n:Int):Lg:={ g with left:=if n<0 then -1 else n }
theorem OkL.fa {g:Lg} (h:OkL g) {n:Int} (hn:n<=9223372036854775807):OkL (faG g n):=⟨h.r0,h.r1,h.len,h.each,h.tail,h.safe,by show -1<=if n<0 then -1 else n;split <;> omega,by show (if n<0 then -1 else n)<=_;split <;> omega⟩
def crN (g:Lg) (keep:Int):Nat:=if 0<keep then (if keep<(g.by.length:Int) - g.safe then g.safe+keep.toNat else g.by.length) else g.safe
def fitL:Nat->List (List Chg)->List (List Chg)
 | _,[]=>[]
 | n,l :: r=>if (fr l).length<=n then l :: fitL (n - (fr l).length) r else []
def crG (g:Lg) (keep:Int):Lg:=⟨g.room,fitL (crN g keep) g.ls,[],(frs (fitL (crN g keep) g.ls)).length,-1,false⟩
theorem fitL_take:∀ (n:Nat) (ls:List (List Chg)),∃ k,k<=ls.length/\fitL n ls=ls.take k/\(frs (ls.take k)).length<=n
 | _,[]=>⟨0,Nat.le_refl _,rfl,Nat.zero_le _⟩
 | n,l :: r=>by
  rw[fitL]
  by_cases c:(fr l).length<=n
  ·rw[if_pos c]
   obtain⟨k,h1,h2,h3⟩:=fitL_take (n - (fr l).length) r
   exact⟨k+1,by simpa using h1,by rw[h2];rfl,by rw[List.take_succ_cons,frs_cons,List.length_append];omega⟩
  ·rw[if_neg c];exact⟨0,Nat.zero_le _,rfl,Nat.zero_le _⟩
theorem fitL_all:∀ {n:Nat} {ls:List (List Chg)} {k:Nat},k<=ls.length->(frs (ls.take k)).length<=n->k<=(fitL n ls).length
 | _,[],k,h,_=>by simp at h;omega
 | n,l :: r,0,_,_=>Nat.zero_le _
 | n,l :: r,k+1,h,h2=>by
  rw[List.take_succ_cons,frs_cons,List.length_append] at h2
  rw[fitL,if_pos (by omega)]
  have:=fitL_all (n:=n - (fr l).length) (ls:=r) (k:=k) (by simpa using h) (by omega)
  simpa using this
theorem OkL.cr {g:Lg} (h:OkL g) (keep:Int):OkL (crG g keep):=by
 obtain⟨k,h1,h2,h3⟩:=fitL_take (crN g keep) g.ls
 have hf:=h.few
 have hl:=h.len
 have hp:(frs (fitL (crN g keep) g.ls)).length<=(frs g.ls).length:=by
  rw[h2]
  conv=>rhs;rw[<- List.take_append_drop k g.ls,frs_app,List.length_append]
  omega
 refine⟨h.r0,h.r1,?_,fun l hl=>?_,.inl rfl,Nat.le_refl _,Int.le_refl _,by show (-1:Int)<=_;decide⟩
 ·show ((frs (fitL (crN g keep) g.ls) ++ []).length:Int)<=g.room
  rw[List.append_nil];omega
 ·have hl:l∈fitL (crN g keep) g.ls:=hl
  rw[h2] at hl
  exact h.each l (List.mem_of_mem_take hl)
def ends:Nat->List (List Chg)->List Int
 | _,[]=>[]
 | o,l :: r=>((o+(fr l).length:Nat):Int) :: ends (o+(fr l).length) r
theorem fitL_go {n:Nat} {ls:List (List Chg)} {k:Nat} (hk:k<=ls.length) (h:(frs (ls.take k)).length<=n):fitL n ls=ls.take k++fitL (n - (frs (ls.take k)).length) (ls.drop k):=by
 induction k generalizing n ls with
 | zero=>simp[frs]
 | succ k ih=>
  cases ls with
  | nil=>simp at hk
  | cons l r=>
   rw[List.take_succ_cons,frs_cons,List.length_append] at h
   rw[fitL,if_pos (by omega),List.take_succ_cons,List.drop_succ_cons,frs_cons,List.length_append,ih (by simpa using hk) (by omega),List.cons_append,Nat.sub_sub]
theorem fitL_end {n:Nat} {ls:List (List Chg)} {k:Nat} (hk:k<=ls.length) (h:(frs (ls.take k)).length<=n) (he:k=ls.length \/ n<(frs (ls.take (k+1))).length):fitL n ls=ls.take k:=by
 rw[fitL_go hk h]
 have:fitL (n - (frs (ls.take k)).length) (ls.drop k)=[]:=by
  rcases he with e|e
  ·rw[e,List.drop_length];rfl
  ·by_cases c:k<ls.length
   ·have h2:ls.take (k+1)=ls.take k ++ [ls[k]]:=by rw[List.take_add_one,List.getElem?_eq_getElem c];rfl
    rw[h2,frs_app,frs_one,List.length_append] at e
    rw[List.drop_eq_getElem_cons c,fitL,if_neg (by omega)]
   ·rw[List.drop_eq_nil_of_le (by omega)];rfl
 rw[this,List.append_nil]
end Vs
namespace Vs
open Go
structure Ox where
 id:Int
 sees:Int
 asked:Int
 keys:List ByteArray
 spans:List (ByteArray×ByteArray)
 own:List Chg
structure Dk where
 lg:Lg
 vs:List Ver
 top:Int
 last:Int
 ids:Int
 op:List Ox
def dk0 (room:Int):Dk:=⟨lg0 room,[],0,0,0,[]⟩
def verC (n:Int) (c:Chg):Ver:=⟨c.k,c.v,n,c.g⟩
def tabF:Int->List (List Chg)->List Ver
 | _,[]=>[]
 | n,l :: r=>l.map (verC n)++tabF (n+1) r
def tab (ls:List (List Chg)):List Ver:=tabF 1 ls
theorem tabF_app:∀ (n:Int) (ls:List (List Chg)) (l:List Chg),tabF n (ls ++ [l])=tabF n ls++l.map (verC (n+ls.length))
 | n,[],l=>by simp[tabF]
 | n,m :: r,l=>by
  rw[List.cons_append,tabF,tabF_app,tabF,List.append_assoc,List.length_cons]
  congr 3
  have:n+1+(r.length:Int)=n+((r.length+1:Nat):Int):=by omega
  rw[this]
theorem tab_app (ls:List (List Chg)) (l:List Chg):tab (ls ++ [l])=tab ls++l.map (verC (ls.length+1)):=by
 rw[tab,tabF_app,tab]
 congr 2
 rw[Int.add_comm]
def wtL (ls:List (List Chg)):Nat:=(ls.map List.length).sum
theorem wtL_app (ls:List (List Chg)) (l:List Chg):wtL (ls ++ [l])=wtL ls+l.length:=by simp[wtL]
theorem tabF_len:∀ (n:Int) (ls:List (List Chg)),(tabF n ls).length=wtL ls
 | _,[]=>rfl
 | n,l :: r=>by rw[tabF,List.length_append,tabF_len,List.length_map];simp[wtL]
theorem tab_len (ls:List (List Chg)):(tab ls).length=wtL ls:=tabF_len 1 ls
def risC (l:List Chg):Prop:=l.Pairwise (fun a b=>bl a.k b.k=true)
theorem chG_ris:∀ {p:Option ByteArray} {l:List Chg},chG p l=0->risC l /\ ∀ q,p=some q -> ∀ c∈l,bl q c.k=true
 | none,[],_=>⟨.nil,fun q h=>by cases h⟩
 | some p,[],_=>⟨.nil,fun q _ c h=>by simp at h⟩
 | none,x :: r,h=>by
  rw[chG] at h
  split at h
  ·cases h
  ·obtain⟨h1,h2⟩:=chG_ris h
   exact⟨List.pairwise_cons.2 ⟨h2 _ rfl,h1⟩,fun q h=>by cases h⟩
 | some p,x :: r,h=>by
  rw[chG] at h
  split at h
  ·cases h
  ·rename_i e
   obtain⟨h1,h2⟩:=chG_ris h
   have hp:bl p x.k=true:=by
    cases e':bl p x.k
    ·exact absurd (.inr e') e
    ·rfl
   refine⟨List.pairwise_cons.2 ⟨h2 _ rfl,h1⟩,fun q hq c hc=>?_⟩
   cases hq
   rcases List.mem_cons.1 hc with rfl|hc
   ·exact hp
   ·exact bl_trans hp (h2 _ rfl c hc)
theorem chF_ris {l:List Chg} (h:chF l=0):risC l:=by
 unfold chF at h
 split at h
 ·cases h
 ·exact (chG_ris h).1
theorem ris_chG:∀ {l:List Chg} {p:Option ByteArray},risC l->(∀ c∈l,chW c=false)->(∀ q,p=some q -> ∀ c∈l,bl q c.k=true)->chG p l=0
 | [],none,_,_,_=>rfl
 | [],some _,_,_,_=>rfl
 | x :: r,none,h,hw,hq=>by
  obtain⟨h1,h2⟩:=List.pairwise_cons.1 h
  rw[chG,if_neg (by rw[hw x (by simp)];decide)]
  exact ris_chG h2 (fun c hc=>hw c (by simp[hc])) (fun q e c hc=>by cases e;exact h1 c hc)
 | x :: r,some p,h,hw,hq=>by
  obtain⟨h1,h2⟩:=List.pairwise_cons.1 h
  rw[chG,if_neg (by rw[hw x (by simp),hq p rfl x (by simp)];decide)]
  exact ris_chG h2 (fun c hc=>hw c (by simp[hc])) (fun q e c hc=>by cases e;exact h1 c hc)
theorem ris_chF {l:List Chg} (h:risC l) (hw:∀ c∈l,chW c=false) (hl:l.length<=20):chF l=0:=by
 unfold chF
 rw[if_neg (by omega)]
 exact ris_chG h hw (fun q e=>by cases e)
theorem ris_once {l:List Chg} (h:risC l) {a b:Chg} (ha:a∈l) (hb:b∈l) (e:a.k=b.k):a=b:=by
 induction l with
 | nil=>simp at ha
 | cons x r ih=>
  obtain⟨h1,h2⟩:=List.pairwise_cons.1 h
  rcases List.mem_cons.1 ha with ha|ha
  ·rcases List.mem_cons.1 hb with hb|hb
   ·rw[ha,hb]
   ·have:=h1 b hb
    rw[<- ha,e,bl_irr] at this;cases this
  ·rcases List.mem_cons.1 hb with hb|hb
   ·have:=h1 a ha
    rw[<- hb,<- e,bl_irr] at this;cases this
   ·exact ih h2 ha hb
theorem tab_ok {ls:List (List Chg)} (h:∀ l∈ls,chF l=0) (hn:ls.length<=1000000):OkT (tab ls) ls.length:=by
 have key:∀ (ls:List (List Chg)) (n:Int),1<=n->n+ls.length<=1000001->(∀ l∈ls,chF l=0) →
   (∀ x∈tabF n ls,OkV x/\n<=x.n/\x.n<n+ls.length)/\(tabF n ls).Pairwise (fun x y=>x.n<=y.n)/\(tabF n ls).Pairwise (fun x y=>¬ (x.k=y.k/\x.n=y.n)):=by
  intro ls
  induction ls with
  | nil=>intro n _ _ _;exact⟨fun x h=>by simp[tabF] at h,.nil,.nil⟩
  | cons l r ih=>
   intro n h1 h2 h3
   have h2':n+1+(r.length:Int)<=1000001:=by simp at h2;omega
   obtain⟨i1,i2,i3⟩:=ih (n+1) (by omega) h2' (fun m hm=>h3 m (by simp[hm]))
   have hl:=h3 l (by simp)
   have hw:=(chF_ok hl).2
   have hr:=chF_ris hl
   rw[tabF]
   refine⟨fun x hx=>?_,?_,?_⟩
   ·rcases List.mem_append.1 hx with hx|hx
    ·obtain⟨c,hc,rfl⟩:=List.mem_map.1 hx
     obtain⟨a1,a2,a3,_⟩:=chW_ok (hw c hc)
     simp at h2
     exact⟨⟨a1,a2,a3,h1,by show n<=1000000;omega⟩,Int.le_refl _,by show n<n+((l :: r).length:Int);simp;omega⟩
    ·obtain⟨b1,b2,b3⟩:=i1 x hx
     simp
     exact⟨b1,by omega,by omega⟩
   ·refine List.pairwise_append.2 ⟨?_,i2,fun x hx y hy=>?_⟩
    ·refine List.pairwise_map.2 (List.Pairwise.imp (fun _=>Int.le_refl _) hr)
    ·obtain⟨c,hc,rfl⟩:=List.mem_map.1 hx
     have:=(i1 y hy).2.1
     show n<=y.n
     omega
   ·refine List.pairwise_append.2 ⟨?_,i3,fun x hx y hy=>?_⟩
    ·refine List.pairwise_map.2 (List.Pairwise.imp (fun {a b} hab e=>?_) hr)
     have e1:a.k=b.k:=e.1
     rw[e1,bl_irr] at hab;cases hab
    ·obtain⟨c,hc,rfl⟩:=List.mem_map.1 hx
     have:=(i1 y hy).2.1
     rintro ⟨_,e⟩
     have e:n=y.n:=e
     omega
 obtain⟨k1,k2,k3⟩:=key ls 1 (by omega) (by omega) h
 exact⟨fun x hx=>⟨(k1 x hx).1,by have:=(k1 x hx).2.2;omega⟩,k2,k3,by omega,by omega⟩
def ownC (own:List Chg) (k:ByteArray):Option Chg:=own.find? (fun c=>decide (c.k=k))
theorem ownC_some {own:List Chg} {k:ByteArray} {c:Chg} (h:ownC own k=some c):c∈own/\c.k=k:=by
 refine⟨List.mem_of_find?_eq_some h,?_⟩
 have:=List.find?_some h
 simpa using this
theorem ownC_none {own:List Chg} {k:ByteArray}:ownC own k=none ↔ ∀ c∈own,c.k≠k:=by
 unfold ownC
 rw[List.find?_eq_none]
 constructor
 ·intro h c hc;simpa using h c hc
 ·intro h c hc;simpa using h c hc
theorem ownC_is {own:List Chg} (hr:risC own) {c:Chg} (hc:c∈own):ownC own c.k=some c:=by
 cases e:ownC own c.k with
 | none=>exact absurd rfl (ownC_none.1 e c hc)
 | some d=>
  obtain⟨h1,h2⟩:=ownC_some e
  rw[ris_once hr h1 hc h2]
def seeO (vs:List Ver) (sees:Int) (own:List Chg) (k:ByteArray):Option ByteArray:=match ownC own k with
 | some c=>if c.g=true then none else some c.v
 | none=>vget vs k sees
def rngO (vs:List Ver) (sees:Int) (own:List Chg) (lo hi:ByteArray):List Pr:=
 (own.filter (fun c => !c.g&&btw lo hi c.k)).foldl (fun r c=>insP r (c.k,c.v)) ((vrng vs lo hi sees).filter (fun p=>(ownC own p.1).isNone))
theorem fold_insC:∀ (m:List Chg) (r:List Pr),rises r->(∀ x∈m,∀ q∈r,q.1≠x.k)->m.Pairwise (fun x y=>x.k≠y.k) →
  rises (m.foldl (fun r x=>insP r (x.k,x.v)) r) /\ ∀ p,p∈m.foldl (fun r x=>insP r (x.k,x.v)) r↔p∈r \/ ∃ x∈m,p=(x.k,x.v)
 | [],r,h,_,_=>⟨h,fun p=>by simp⟩
 | x :: m,r,h,hn,hp=>by
  obtain⟨h1,h2⟩:=List.pairwise_cons.1 hp
  obtain⟨i1,i2⟩:=fold_insC m (insP r (x.k,x.v)) (rises_insP h (hn x (by simp))) (fun y hy q hq=>by
   rcases mem_insP.1 hq with rfl|hq
   ·exact h1 y hy
   ·exact hn y (by simp[hy]) q hq) h2
  refine⟨i1,fun p=>?_⟩
  rw[List.foldl_cons,i2 p,mem_insP]
  constructor
  ·rintro ((h|h)|⟨y,hy,h⟩)
   ·exact .inr ⟨x,by simp,h⟩
   ·exact .inl h
   ·exact .inr ⟨y,by simp[hy],h⟩
  ·rintro (h|⟨y,hy,h⟩)
   ·exact .inl (.inr h)
   ·rcases List.mem_cons.1 hy with rfl|hy
    ·exact .inl (.inl h)
    ·exact .inr ⟨y,hy,h⟩
theorem rngO_is {vs:List Ver} {top:Int} (hT:OkT vs top) {own:List Chg} (hr:risC own) (sees:Int) (lo hi:ByteArray):rises (rngO vs sees own lo hi) /\ ∀ p,p∈rngO vs sees own lo hi↔btw lo hi p.1=true/\seeO vs sees own p.1=some p.2:=by
 obtain⟨v1,v2⟩:=vrng_is hT lo hi sees
 have hp:(own.filter (fun c => !c.g&&btw lo hi c.k)).Pairwise (fun x y=>x.k≠y.k):=(hr.filter _).imp (fun h=>bl_ne h)
 obtain⟨h1,h2⟩:=fold_insC (own.filter (fun c => !c.g&&btw lo hi c.k)) ((vrng vs lo hi sees).filter (fun p=>(ownC own p.1).isNone)) (v1.filter _) (fun x hx q hq e=>by
  have hq2:=(List.mem_filter.1 hq).2
  rw[Option.isNone_iff_eq_none] at hq2
  exact ownC_none.1 hq2 x (memF hx) e.symm) hp
 refine⟨h1,fun p=>?_⟩
 rw[rngO,h2 p]
 constructor
 ·rintro (h|⟨c,hc,rfl⟩)
  ·obtain⟨a1,a2⟩:=List.mem_filter.1 h
   rw[Option.isNone_iff_eq_none] at a2
   obtain⟨b1,b2⟩:=(v2 p).1 a1
   exact⟨b1,by rw[seeO,a2];exact b2⟩
  ·obtain⟨a1,a2⟩:=List.mem_filter.1 hc
   simp only [Bool.and_eq_true,Bool.not_eq_true'] at a2
   refine⟨a2.2,?_⟩
   show seeO vs sees own c.k=some c.v
   rw[seeO,ownC_is hr a1]
   simp[a2.1]
 ·rintro ⟨h3,h4⟩
  cases e:ownC own p.1 with
  | none=>
   rw[seeO,e] at h4
   exact .inl (List.mem_filter.2 ⟨(v2 p).2 ⟨h3,h4⟩,by rw[e];rfl⟩)
  | some c=>
   obtain⟨e1,e2⟩:=ownC_some e
   rw[seeO,e] at h4
   by_cases hg:c.g=true
   ·simp[hg] at h4
   ·simp[hg] at h4
    refine .inr ⟨c,List.mem_filter.2 ⟨e1,?_⟩,?_⟩
    ·simp[hg,e2,h3]
    ·rw[h4,e2]
def insC:List Chg->Chg->List Chg
 | [],c=>[c]
 | x :: r,c=>if c.k=x.k then c :: r else if bl c.k x.k=true then c :: x :: r else x :: insC r c
theorem mem_insC:∀ {l:List Chg} {c x:Chg},risC l->(x∈insC l c↔x=c \/ (x∈l/\x.k≠c.k))
 | [],c,x,_=>by simp[insC]
 | y :: r,c,x,h=>by
  obtain⟨h1,h2⟩:=List.pairwise_cons.1 h
  rw[insC]
  by_cases e:c.k=y.k
  ·rw[if_pos e,List.mem_cons,List.mem_cons]
   constructor
   ·rintro (g|g)
    ·exact .inl g
    ·exact .inr ⟨.inr g,fun e'=>by have:=h1 x g;rw[<- e,<- e',bl_irr] at this;cases this⟩
   ·rintro (g|⟨g|g,ne⟩)
    ·exact .inl g
    ·rw[g] at ne;exact absurd e.symm ne
    ·exact .inr g
  ·rw[if_neg e]
   by_cases b:bl c.k y.k=true
   ·rw[if_pos b,List.mem_cons]
    constructor
    ·rintro (g|g)
     ·exact .inl g
     ·refine .inr ⟨g,fun e'=>?_⟩
      rcases List.mem_cons.1 g with rfl|g
      ·exact e e'.symm
      ·have:=bl_trans b (h1 x g);rw[e',bl_irr] at this;cases this
    ·rintro (g|⟨g,_⟩)
     ·exact .inl g
     ·exact .inr g
   ·rw[if_neg b,List.mem_cons,mem_insC h2,List.mem_cons]
    constructor
    ·rintro (g|g|⟨g,ne⟩)
     ·exact .inr ⟨.inl g,fun e'=>e (by rw[<- e',g])⟩
     ·exact .inl g
     ·exact .inr ⟨.inr g,ne⟩
    ·rintro (g|⟨g|g,ne⟩)
     ·exact .inr (.inl g)
     ·exact .inl g
     ·exact .inr (.inr ⟨g,ne⟩)
theorem ris_insC:∀ {l:List Chg} {c:Chg},risC l->risC (insC l c)
 | [],c,_=>List.pairwise_singleton _ _
 | y :: r,c,h=>by
  obtain⟨h1,h2⟩:=List.pairwise_cons.1 h
  rw[insC]
  by_cases e:c.k=y.k
  ·rw[if_pos e]
   exact List.pairwise_cons.2 ⟨fun x hx=>by rw[e];exact h1 x hx,h2⟩
  ·rw[if_neg e]
   by_cases b:bl c.k y.k=true
   ·rw[if_pos b]
    refine List.pairwise_cons.2 ⟨fun x hx=>?_,h⟩
    rcases List.mem_cons.1 hx with rfl|hx
    ·exact b
    ·exact bl_trans b (h1 x hx)
   ·rw[if_neg b]
    have b':bl c.k y.k=false:=by simpa using b
    refine List.pairwise_cons.2 ⟨fun x hx=>?_,ris_insC h2⟩
    rcases (mem_insC h2).1 hx with rfl|⟨hx,_⟩
    ·cases e':bl y.k x.k
     ·exact absurd (bl_tri e' b') (fun g=>e g.symm)
     ·rfl
    ·exact h1 x hx
theorem len_insC:∀ (l:List Chg) (c:Chg),(insC l c).length<=l.length+1
 | [],_=>Nat.le_refl _
 | y :: r,c=>by
  have:=len_insC r c
  rw[insC]
  split
  ·simp
  ·split
   ·simp
   ·simp;omega
theorem ownC_ins {l:List Chg} (h:risC l) (c:Chg) (k:ByteArray):ownC (insC l c) k=if k=c.k then some c else ownC l k:=by
 by_cases e:k=c.k
 ·rw[if_pos e,e]
  exact ownC_is (ris_insC h) ((mem_insC h).2 (.inl rfl))
 ·rw[if_neg e]
  cases e2:ownC l k with
  | none=>
   refine ownC_none.2 (fun x hx=>?_)
   rcases (mem_insC h).1 hx with rfl|⟨hx,_⟩
   ·exact fun g=>e g.symm
   ·exact ownC_none.1 e2 x hx
  | some d=>
   obtain⟨d1,d2⟩:=ownC_some e2
   rw[<- d2]
   exact ownC_is (ris_insC h) ((mem_insC h).2 (.inr ⟨d1,by rw[d2];exact e⟩))
end Vs
namespace Vs
open Go
def opI (d:Dk) (i:Int):Option Ox:=d.op.find? (fun o=>decide (o.id=i))
def opSet (d:Dk) (o':Ox):Dk:={ d with op:=d.op.map (fun o=>if o.id=o'.id then o' else o) }
def opDel (d:Dk) (i:Int):Dk:={ d with op:=d.op.filter (fun o => !decide (o.id=i)) }
structure OkO (d:Dk) (o:Ox):Prop where
 i1:1<=o.id
 i2:o.id<=d.ids
 s0:0<=o.sees
 s1:o.sees<=d.last
 a0:0<=o.asked
 a1:o.asked<=100
 own:chF o.own=0
 asks:(o.keys.length:Int)+o.spans.length=o.asked
 keys:∀ k∈o.keys,1<=k.size/\k.size<=24
structure OkD (d:Dk):Prop where
 lg:OkL d.lg
 tb:OkT d.vs d.top
 tl:d.top<=d.last
 last:d.last=d.lg.ls.length
 each:∀ l∈d.lg.ls,0<l.length
 i0:0<=d.ids
 op:∀ o∈d.op,OkO d o
 ids:d.op.Pairwise (fun a b=>a.id<b.id)
 few:d.op.length<=8
 len:d.vs.length<=wtL d.lg.ls
def wtO (l:List Ox):Nat:=(l.map fun o=>o.own.length).sum
def wt (d:Dk):Nat:=wtL d.lg.ls+wtO d.op
def bgF (d:Dk):Int:=if 8<=d.op.length then 3 else if d.lg.down=true then 8 else 0
def bgN (d:Dk):Int:=if bgF d=0 then d.ids+1 else 0
def bgD (d:Dk):Dk:=if bgF d=0 then { d with ids:=d.ids+1,op:=d.op ++ [⟨d.ids+1,d.last,0,[],[],[]⟩] } else d
def askK (o:Ox) (k:ByteArray):Ox:={ o with asked:=o.asked+1,keys:=o.keys ++ [k] }
def dgF (d:Dk) (i:Int) (k:ByteArray):Int:=match opI d i with
 | none=>4
 | some o=>if shF k ByteArray.empty=0 then (if 100<=o.asked then 3 else if (seeO d.vs o.sees o.own k).isSome=true then 0 else 4) else 2
def dgS (d:Dk) (i:Int) (k:ByteArray):ByteArray:=match opI d i with
 | none=>ByteArray.empty
 | some o=>if shF k ByteArray.empty=0 then (if 100<=o.asked then ByteArray.empty else (seeO d.vs o.sees o.own k).getD ByteArray.empty) else ByteArray.empty
def dgD (d:Dk) (i:Int) (k:ByteArray):Dk:=match opI d i with
 | none=>d
 | some o=>if shF k ByteArray.empty=0 then (if 100<=o.asked then d else opSet d (askK o k)) else d
def askR (o:Ox) (lo hi:ByteArray):Ox:={ o with asked:=o.asked+1,spans:=o.spans ++ [(lo,hi)] }
def drF (d:Dk) (i:Int):Int:=match opI d i with
 | none=>4
 | some o=>if 100<=o.asked then 3 else 0
def drS (d:Dk) (i:Int) (lo hi:ByteArray):List Pr:=match opI d i with
 | none=>[]
 | some o=>if 100<=o.asked then [] else rngO d.vs o.sees o.own lo hi
def drD (d:Dk) (i:Int) (lo hi:ByteArray):Dk:=match opI d i with
 | none=>d
 | some o=>if 100<=o.asked then d else opSet d (askR o lo hi)
def dcF (d:Dk) (i:Int) (c:Chg):Int:=match opI d i with
 | none=>4
 | some o=>if shF c.k c.v=0 then (if 20<(insC o.own c).length then 3 else 0) else 2
def dcD (d:Dk) (i:Int) (c:Chg):Dk:=match opI d i with
 | none=>d
 | some o=>if shF c.k c.v=0 then (if 20<(insC o.own c).length then d else opSet d { o with own:=insC o.own c }) else d
def snc (vs:List Ver) (k:ByteArray) (a:Int):Bool:=vs.any (fun x=>decide (x.k=k)&&decide (a<x.n))
def clash (vs:List Ver) (o:Ox):Bool:=o.keys.any (fun k=>snc vs k o.sees) || o.own.any (fun c=>snc vs c.k o.sees) || o.spans.any (fun s=>vtch vs s.1 s.2 o.sees)
def cmF (d:Dk) (i:Int):Int:=match opI d i with
 | none=>4
 | some o=>if clash d.vs o=true then 6 else if o.own=[] then 0 else apF d.lg o.own
def cmN (d:Dk) (i:Int):Int:=match opI d i with
 | none=>0
 | some o=>if clash d.vs o=true then 0 else if o.own=[] then o.sees else if apF d.lg o.own=0 then d.last+1 else 0
def addL (d:Dk) (own:List Chg):Dk:={ d with lg:=apG d.lg own,vs:=d.vs++own.map (verC (d.last+1)),top:=d.last+1,last:=d.last+1 }
def cmD (d:Dk) (i:Int):Dk:=match opI d i with
 | none=>d
 | some o=>if clash d.vs o=true then opDel d i else if o.own=[] then opDel d i else if apF d.lg o.own=0 then addL (opDel d i) o.own else { opDel d i with lg:=apG d.lg o.own }
def abF (d:Dk) (i:Int):Int:=if (opI d i).isSome=true then 0 else 4
def flF (d:Dk):Int:=syF d.lg
def flD (d:Dk):Dk:={ d with lg:=syG d.lg }
def fdD (d:Dk) (n:Int):Dk:={ d with lg:=faG d.lg n }
def cdD (d:Dk) (n:Int):Dk:=let g:=crG d.lg n;⟨g,tab g.ls,g.ls.length,g.ls.length,d.ids,[]⟩
def least (a:Int) (l:List Ox):Int:=l.foldl (fun m o=>if o.sees<m then o.sees else m) a
def allV (l:List Ver) (a:Int) (x:Ver):Bool := !x.g&&decide (see l x.k a=some x)
def allP (d:Dk):List Pr:=(d.vs.filter (allV d.vs d.last)).foldl (fun r x=>insP r (x.k,x.v)) []
def sfN (d:Dk):Nat:=(fitL d.lg.safe d.lg.ls).length
theorem opI_some {d:Dk} {i:Int} {o:Ox} (h:opI d i=some o):o∈d.op/\o.id=i:=by
 refine⟨List.mem_of_find?_eq_some h,?_⟩
 have:=List.find?_some h
 simpa using this
theorem opI_none {d:Dk} {i:Int}:opI d i=none ↔ ∀ o∈d.op,o.id≠i:=by
 unfold opI
 rw[List.find?_eq_none]
 constructor
 ·intro h c hc;simpa using h c hc
 ·intro h c hc;simpa using h c hc
theorem ids_once {d:Dk} (h:d.op.Pairwise (fun a b=>a.id<b.id)) {a b:Ox} (ha:a∈d.op) (hb:b∈d.op) (e:a.id=b.id):a=b:=by
 generalize d.op=l at h ha hb
 induction l with
 | nil=>simp at ha
 | cons x r ih=>
  obtain⟨h1,h2⟩:=List.pairwise_cons.1 h
  rcases List.mem_cons.1 ha with ha|ha
  ·rcases List.mem_cons.1 hb with hb|hb
   ·rw[ha,hb]
   ·have:=h1 b hb
    rw[<- ha] at this;omega
  ·rcases List.mem_cons.1 hb with hb|hb
   ·have:=h1 a ha
    rw[<- hb] at this;omega
   ·exact ih h2 ha hb
theorem opI_is {d:Dk} (h:d.op.Pairwise (fun a b=>a.id<b.id)) {o:Ox} (ho:o∈d.op):opI d o.id=some o:=by
 cases e:opI d o.id with
 | none=>exact absurd rfl (opI_none.1 e o ho)
 | some x=>
  obtain⟨h1,h2⟩:=opI_some e
  rw[ids_once h h1 ho h2]
theorem OkO.mono {d d':Dk} {o:Ox} (h:OkO d o) (hi:d.ids<=d'.ids) (hl:d.last<=d'.last):OkO d' o:=
 ⟨h.i1,by have:=h.i2;omega,h.s0,by have:=h.s1;omega,h.a0,h.a1,h.own,h.asks,h.keys⟩
theorem OkD.new {room:Int} (h0:0<=room) (h1:room<=100000):OkD (dk0 room):=
 ⟨OkL.new h0 h1,OkT.nil,Int.le_refl _,rfl,fun l h=>by simp[dk0,lg0] at h,Int.le_refl _,fun o h=>by simp[dk0] at h,.nil,by simp[dk0],by simp[dk0]⟩
theorem OkD.bg {d:Dk} (h:OkD d):OkD (bgD d):=by
 unfold bgD
 by_cases c:bgF d=0
 ·rw[if_pos c]
  have hf:¬ 8<=d.op.length:=fun g=>by rw[bgF,if_pos g] at c;cases c
  have hi:=h.i0
  refine⟨h.lg,h.tb,h.tl,h.last,h.each,by show 0<=d.ids+1;omega,fun o ho=>?_,?_,by show (d.op ++ [_]).length<=8;simp;omega,h.len⟩
  ·rcases List.mem_append.1 ho with ho|ho
   ·exact (h.op o ho).mono (by show d.ids<=d.ids+1;omega) (Int.le_refl _)
   ·rw[List.mem_singleton.1 ho]
    exact⟨by show 1<=d.ids+1;omega,Int.le_refl _,by show 0<=d.last;rw[h.last];omega,Int.le_refl _,Int.le_refl _,by show (0:Int)<=100;decide,rfl,rfl,fun k hk=>by simp at hk⟩
  ·refine List.pairwise_append.2 ⟨h.ids,List.pairwise_singleton _ _,fun a ha b hb=>?_⟩
   rw[List.mem_singleton.1 hb]
   have:=(h.op a ha).i2
   show a.id<d.ids+1
   omega
 ·rw[if_neg c];exact h
theorem OkD.set {d:Dk} (h:OkD d) {o':Ox} (k:OkO d o'):OkD (opSet d o'):=by
 refine⟨h.lg,h.tb,h.tl,h.last,h.each,h.i0,fun x hx=>?_,?_,by show (d.op.map _).length<=8;rw[List.length_map];exact h.few,h.len⟩
 ·obtain⟨y,hy,rfl⟩:=List.mem_map.1 hx
  by_cases c:y.id=o'.id
  ·rw[if_pos c];exact k.mono (Int.le_refl _) (Int.le_refl _)
  ·rw[if_neg c];exact (h.op y hy).mono (Int.le_refl _) (Int.le_refl _)
 ·refine List.pairwise_map.2 (h.ids.imp (fun {a b} hab=>?_))
  by_cases c1:a.id=o'.id
  ·rw[if_pos c1]
   by_cases c2:b.id=o'.id
   ·omega
   ·rw[if_neg c2];omega
  ·rw[if_neg c1]
   by_cases c2:b.id=o'.id
   ·rw[if_pos c2];omega
   ·rw[if_neg c2];omega
theorem OkD.del {d:Dk} (h:OkD d) (i:Int):OkD (opDel d i):=
 ⟨h.lg,h.tb,h.tl,h.last,h.each,h.i0,fun x hx=>(h.op x (memF hx)).mono (Int.le_refl _) (Int.le_refl _),h.ids.filter _,Nat.le_trans (List.length_filter_le _ _) h.few,h.len⟩
theorem shF_ok {k v:ByteArray} (h:shF k v=0):1<=k.size/\k.size<=24/\v.size<=12:=by
 unfold shF at h
 by_cases c:k.size<1 \/ 24<k.size \/ 12<v.size
 ·rw[if_pos c] at h;cases h
 ·omega
theorem OkD.dg {d:Dk} (h:OkD d) (i:Int) (k:ByteArray):OkD (dgD d i k):=by
 unfold dgD
 cases e:opI d i with
 | none=>exact h
 | some o=>
  obtain⟨h1,h2⟩:=opI_some e
  have ho:=h.op o h1
  simp only
  by_cases c:shF k ByteArray.empty=0
  ·rw[if_pos c]
   by_cases c2:100<=o.asked
   ·rw[if_pos c2];exact h
   ·rw[if_neg c2]
    have hk:=shF_ok c
    refine h.set ⟨ho.i1,ho.i2,ho.s0,ho.s1,by show 0<=o.asked+1;have:=ho.a0;omega,by show o.asked+1<=100;omega,ho.own,?_,fun x hx=>?_⟩
    ·show ((o.keys ++ [k]).length:Int)+o.spans.length=o.asked+1
     have:=ho.asks
     rw[List.length_append];simp;omega
    ·rcases List.mem_append.1 hx with hx|hx
     ·exact ho.keys x hx
     ·rw[List.mem_singleton.1 hx];exact⟨hk.1,hk.2.1⟩
  ·rw[if_neg c];exact h
theorem OkD.dr {d:Dk} (h:OkD d) (i:Int) (lo hi:ByteArray):OkD (drD d i lo hi):=by
 unfold drD
 cases e:opI d i with
 | none=>exact h
 | some o=>
  obtain⟨h1,h2⟩:=opI_some e
  have ho:=h.op o h1
  simp only
  by_cases c2:100<=o.asked
  ·rw[if_pos c2];exact h
  ·rw[if_neg c2]
   refine h.set ⟨ho.i1,ho.i2,ho.s0,ho.s1,by show 0<=o.asked+1;have:=ho.a0;omega,by show o.asked+1<=100;omega,ho.own,?_,ho.keys⟩
   show (o.keys.length:Int)+((o.spans ++ [(lo,hi)]).length:Int)=o.asked+1
   have:=ho.asks
   rw[List.length_append];simp;omega
def okc (c:Chg):Prop:=c.g=true->c.v.size=0
theorem chW_of {c:Chg} (h:shF c.k c.v=0) (g:okc c):chW c=false:=by
 unfold chW
 rw[h]
 cases e:c.g
 ·rfl
 ·simp[g e]
theorem OkD.dc {d:Dk} (h:OkD d) (i:Int) {c:Chg} (g:okc c):OkD (dcD d i c):=by
 unfold dcD
 cases e:opI d i with
 | none=>exact h
 | some o=>
  obtain⟨h1,h2⟩:=opI_some e
  have ho:=h.op o h1
  simp only
  by_cases cs:shF c.k c.v=0
  ·rw[if_pos cs]
   by_cases c2:20<(insC o.own c).length
   ·rw[if_pos c2];exact h
   ·rw[if_neg c2]
    have hr:=chF_ris ho.own
    refine h.set ⟨ho.i1,ho.i2,ho.s0,ho.s1,ho.a0,ho.a1,?_,ho.asks,ho.keys⟩
    refine ris_chF (ris_insC hr) (fun x hx=>?_) (by show (insC o.own c).length<=20;omega)
    rcases (mem_insC hr).1 hx with rfl|⟨hx,_⟩
    ·exact chW_of cs g
    ·exact (chF_ok ho.own).2 x hx
  ·rw[if_neg cs];exact h
theorem ls_ap (g:Lg) (l:List Chg):(apG g l).ls=if apF g l=0 then g.ls ++ [l] else g.ls:=by
 unfold apF apG
 by_cases h1:chF l=0
 ·rw[if_pos h1,if_pos h1]
  by_cases h2:g.room<g.by.length+2+(encL l).length
  ·rw[if_pos h2,if_pos h2];rfl
  ·rw[if_neg h2,if_neg h2]
   by_cases h3:g.down=true
   ·rw[if_pos h3,if_pos h3];rfl
   ·rw[if_neg h3,if_neg h3]
    by_cases h4:g.left=0
    ·rw[if_pos h4,if_pos h4];rfl
    ·rw[if_neg h4,if_neg h4];rfl
 ·rw[if_neg h1,if_neg h1,if_neg h1]
theorem ls_sy (g:Lg):(syG g).ls=g.ls:=by
 unfold syG
 split
 ·rfl
 ·split <;> rfl
theorem OkT.add {l:List Ver} {s:Int} (h:OkT l s) {n:Int} (h1:s<n) (h2:n<=1000000) {own:List Chg} (ho:chF own=0):OkT (l++own.map (verC n)) n:=by
 have h0:=h.t0
 have hw:=(chF_ok ho).2
 refine⟨fun x hx=>?_,?_,?_,by omega,h2⟩
 ·rcases List.mem_append.1 hx with hx|hx
  ·exact⟨(h.each x hx).1,by have:=(h.each x hx).2;omega⟩
  ·obtain⟨c,hc,rfl⟩:=List.mem_map.1 hx
   obtain⟨a1,a2,a3,_⟩:=chW_ok (hw c hc)
   exact⟨⟨a1,a2,a3,by show 1<=n;omega,h2⟩,Int.le_refl _⟩
 ·refine List.pairwise_append.2 ⟨h.rise,List.pairwise_map.2 (List.Pairwise.imp (fun _=>Int.le_refl _) (chF_ris ho)),fun x hx y hy=>?_⟩
  obtain⟨c,hc,rfl⟩:=List.mem_map.1 hy
  have:=(h.each x hx).2
  show x.n<=n
  omega
 ·refine List.pairwise_append.2 ⟨h.once,List.pairwise_map.2 (List.Pairwise.imp (fun {a b} hab e=>?_) (chF_ris ho)),fun x hx y hy=>?_⟩
  ·have e1:a.k=b.k:=e.1
   rw[e1,bl_irr] at hab;cases hab
  ·obtain⟨c,hc,rfl⟩:=List.mem_map.1 hy
   have:=(h.each x hx).2
   rintro ⟨_,e⟩
   have e:x.n=n:=e
   omega
theorem OkD.cm {d:Dk} (h:OkD d) (i:Int):OkD (cmD d i):=by
 unfold cmD
 cases e:opI d i with
 | none=>exact h
 | some o=>
  obtain⟨h1,h2⟩:=opI_some e
  have ho:=h.op o h1
  have hd:=h.del i
  simp only
  by_cases c:clash d.vs o=true
  ·rw[if_pos c];exact hd
  ·rw[if_neg c]
   by_cases c2:o.own=[]
   ·rw[if_pos c2];exact hd
   ·rw[if_neg c2]
    have hls:=ls_ap d.lg o.own
    have hfw:=(h.lg.ap o.own).few.1
    by_cases c3:apF d.lg o.own=0
    ·rw[if_pos c3]
     rw[if_pos c3] at hls
     have hl:=h.last
     have hn:d.last+1<=1000000:=by
      rw[hls,List.length_append] at hfw
      simp at hfw;omega
     refine⟨h.lg.ap _,OkT.add h.tb (by have:=h.tl;omega) hn ho.own,Int.le_refl _,?_,fun l hm=>?_,h.i0,fun x hx=>(h.op x (memF hx)).mono (Int.le_refl _) (by show d.last<=d.last+1;omega),h.ids.filter _,Nat.le_trans (List.length_filter_le _ _) h.few,?_⟩
     ·show d.last+1=((apG d.lg o.own).ls.length:Int)
      rw[hls,List.length_append];simp;omega
     ·have hm:l∈(apG d.lg o.own).ls:=hm
      rw[hls] at hm
      rcases List.mem_append.1 hm with hm|hm
      ·exact h.each l hm
      ·rw[List.mem_singleton.1 hm];exact List.length_pos_iff.2 c2
     ·show (d.vs++o.own.map _).length<=wtL (apG d.lg o.own).ls
      rw[hls,wtL_app,List.length_append,List.length_map]
      have:=h.len;omega
    ·rw[if_neg c3]
     rw[if_neg c3] at hls
     refine⟨h.lg.ap _,h.tb,h.tl,?_,fun l hm=>?_,h.i0,fun x hx=>(h.op x (memF hx)).mono (Int.le_refl _) (Int.le_refl _),h.ids.filter _,Nat.le_trans (List.length_filter_le _ _) h.few,?_⟩
     ·show d.last=((apG d.lg o.own).ls.length:Int)
      rw[hls];exact h.last
     ·have hm:l∈(apG d.lg o.own).ls:=hm
      rw[hls] at hm
      exact h.each l hm
     ·show d.vs.length<=wtL (apG d.lg o.own).ls
      rw[hls];exact h.len
theorem OkD.fl {d:Dk} (h:OkD d):OkD (flD d):=by
 have e:=ls_sy d.lg
 refine⟨h.lg.sy,h.tb,h.tl,?_,?_,h.i0,fun x hx=>(h.op x hx).mono (Int.le_refl _) (Int.le_refl _),h.ids,h.few,?_⟩
 ·show d.last=((syG d.lg).ls.length:Int);rw[e];exact h.last
 ·show ∀ l∈(syG d.lg).ls,0<l.length;rw[e];exact h.each
 ·show d.vs.length<=wtL (syG d.lg).ls;rw[e];exact h.len
theorem OkD.fd {d:Dk} (h:OkD d) {n:Int} (hn:n<=9223372036854775807):OkD (fdD d n):=
 ⟨h.lg.fa hn,h.tb,h.tl,h.last,h.each,h.i0,fun x hx=>(h.op x hx).mono (Int.le_refl _) (Int.le_refl _),h.ids,h.few,h.len⟩
theorem OkD.cd {d:Dk} (h:OkD d) (n:Int):OkD (cdD d n):=by
 have hg:=h.lg.cr n
 have hfw:=hg.few.1
 obtain⟨k,h1,h2,_⟩:=fitL_take (crN d.lg n) d.lg.ls
 refine⟨hg,tab_ok hg.each (by omega),Int.le_refl _,rfl,fun l hl=>?_,h.i0,fun o ho=>by simp[cdD] at ho,.nil,by simp[cdD],by show (tab _).length<=_;rw[tab_len];exact Nat.le_refl _⟩
 have hl:l∈fitL (crN d.lg n) d.lg.ls:=hl
 rw[h2] at hl
 exact h.each l (List.mem_of_mem_take hl)
end Vs
namespace Vs
open Go
theorem encL_lt {l:List Chg} (h:chF l=0):(encL l).length<=1000:=by
 obtain⟨h1,h2⟩:=chF_ok h
 have key:∀ {m:List Chg},(∀ c∈m,chW c=false)->(m.flatMap encC).length<=m.length*40:=by
  intro m
  induction m with
  | nil=>intro _;simp
  | cons x r ih=>
   intro hm
   have h3:=ih (fun c hc=>hm c (by simp[hc]))
   have h4:(encC x).length<=40:=by
    obtain⟨a1,a2,a3,_⟩:=chW_ok (hm x (by simp))
    have e1:x.k.data.toList.length=x.k.size:=rfl
    have e2:x.v.data.toList.length=x.v.size:=rfl
    unfold encC
    by_cases g:x.g=true
    ·simp[g];omega
    ·simp[g];omega
   rw[List.flatMap_cons,List.length_append,List.length_cons];omega
 have:=key h2
 rw[encL,List.length_cons];omega
def Inc (t:List UInt8):Prop:=∃ l k,chF l=0/\k<(fr l).length/\t=(fr l).take k
theorem inc_nil:Inc []:=⟨[],0,rfl,by rw[fr_len];omega,rfl⟩
theorem Inc.take {t:List UInt8} (h:Inc t) (n:Nat):Inc (t.take n):=by
 obtain⟨l,k,h1,h2,rfl⟩:=h
 exact⟨l,min n k,h1,by omega,by rw[List.take_take]⟩
theorem OkL.inc {g:Lg} (ok:OkL g):Inc g.tl:=by
 rcases ok.tail with h|⟨_,l,h1,h2⟩
 ·rw[h];exact inc_nil
 ·exact⟨l,_,h1,by rw[fr_len];omega,h2⟩
theorem cut_fit:∀ (n:Nat) (ls:List (List Chg)) (t:List UInt8),(∀ l∈ls,chF l=0)->Inc t -> ∃ t',(frs ls++t).take n=frs (fitL n ls)++t'/\Inc t'
 | n,[],t,_,h=>⟨t.take n,by simp[frs,fitL],h.take n⟩
 | n,l :: r,t,hl,h=>by
  rw[fitL]
  by_cases c:(fr l).length<=n
  ·rw[if_pos c]
   obtain⟨t',e,h'⟩:=cut_fit (n - (fr l).length) r t (fun m hm=>hl m (by simp[hm])) h
   exact⟨t',by rw[frs_cons,frs_cons,List.append_assoc,List.take_append,List.take_of_length_le c,e,List.append_assoc],h'⟩
  ·rw[if_neg c]
   exact⟨(fr l).take n,by rw[frs_cons,List.append_assoc,List.take_append_of_le_length (by omega)];simp[frs],l,n,hl l (by simp),by omega,rfl⟩
theorem fr_head {l:List Chg} (h:chF l=0):(fr l)[0]? = some (UInt8.ofNat ((encL l).length / 256))/\(fr l)[1]? = some (UInt8.ofNat ((encL l).length % 256))/\(UInt8.ofNat ((encL l).length / 256)).toNat*256+(UInt8.ofNat ((encL l).length % 256)).toNat=(encL l).length:=by
 have:=encL_lt h
 refine⟨rfl,rfl,?_⟩
 rw[UInt8.toNat_ofNat',UInt8.toNat_ofNat']
 omega
theorem Inc.short {t:List UInt8} (h:Inc t):t.length<2 \/ ∃ a b:UInt8,t[0]? = some a/\t[1]? = some b/\t.length<2+a.toNat*256+b.toNat/\t.length<=2000:=by
 obtain⟨l,k,h1,h2,rfl⟩:=h
 obtain⟨e0,e1,e2⟩:=fr_head h1
 have hs:=encL_lt h1
 rw[List.length_take]
 rw[fr_len] at h2 ⊢
 by_cases c:k<2
 ·left;omega
 ·right
  exact⟨_,_,by rw[List.getElem?_take,if_pos (by omega),e0],by rw[List.getElem?_take,if_pos (by omega),e1],by omega,by omega⟩
theorem fitL_full {n:Nat} {ls:List (List Chg)} (h:(frs ls).length<=n):fitL n ls=ls:=by
 have:=fitL_end (n:=n) (ls:=ls) (k:=ls.length) (Nat.le_refl _) (by rw[List.take_length];exact h) (.inl rfl)
 rwa [List.take_length] at this
abbrev Pc (b:List UInt8):={ x:Nat×List Chg // chF x.2=0 /\ ∃ a c,b=a++(fr x.2++c)/\a.length=x.1 }
def pqs {b:List UInt8} (pre:List (Pc b)):List (List Chg):=pre.map fun x=>x.1.2
theorem pqs_app {b:List UInt8} (p q:List (Pc b)):pqs (p++q)=pqs p++pqs q:=by simp[pqs]
theorem frs_le {ls:List (List Chg)} (h:∀ l∈ls,chF l=0):(frs ls).length<=ls.length*1002:=by
 induction ls with
 | nil=>simp[frs]
 | cons l r ih=>
  have h1:=ih (fun m hm=>h m (by simp[hm]))
  have h2:=encL_lt (h l (by simp))
  rw[frs_cons,List.length_append,fr_len,List.length_cons];omega
theorem pqs_ok {b:List UInt8} (pre:List (Pc b)):∀ l∈pqs pre,chF l=0:=by
 intro l hl
 obtain⟨x,_,rfl⟩:=List.mem_map.1 hl
 exact x.2.1
end Vs
namespace Vs
open Go
theorem fitL_more (n:Nat) (ls:List (List Chg)) (l:List Chg):(fitL n ls).length<=(fitL n (ls ++ [l])).length:=by
 obtain⟨k,h1,h2,h3⟩:=fitL_take n ls
 have h4:=fitL_all (n:=n) (ls:=ls ++ [l]) (k:=k) (by simp;omega) (by rw[List.take_append_of_le_length h1];exact h3)
 rw[h2,List.length_take];omega
theorem safe_ap (g:Lg) (l:List Chg):(apG g l).safe=g.safe:=by
 unfold apG
 split
 ·split
  ·rfl
  ·split
   ·rfl
   ·split <;> rfl
 ·rfl
def allAt (vs:List Ver) (a:Int):List Pr:=(vs.filter (allV vs a)).foldl (fun r x=>insP r (x.k,x.v)) []
theorem allP_at (d:Dk):allP d=allAt d.vs d.last:=rfl
theorem wtO_app (l:List Ox) (o:Ox):wtO (l ++ [o])=wtO l+o.own.length:=by simp[wtO]
theorem wtO_filter (l:List Ox) (p:Ox->Bool):wtO (l.filter p)<=wtO l:=by
 induction l with
 | nil=>simp[wtO]
 | cons x r ih=>
  rw[List.filter_cons]
  simp only [wtO] at ih ⊢
  split
  ·simp only [List.map_cons,List.sum_cons];omega
  ·simp only [List.map_cons,List.sum_cons];omega
theorem wtO_del {l:List Ox} (h:l.Pairwise (fun a b=>a.id<b.id)) {o:Ox} (ho:o∈l):wtO (l.filter (fun x => !decide (x.id=o.id)))+o.own.length=wtO l:=by
 induction l with
 | nil=>simp at ho
 | cons x r ih=>
  obtain⟨h1,h2⟩:=List.pairwise_cons.1 h
  rw[List.filter_cons]
  rcases List.mem_cons.1 ho with rfl|ho
  ·have:r.filter (fun x => !decide (x.id=o.id))=r:=List.filter_eq_self.2 (fun y hy=>by have:=h1 y hy;simp;omega)
   simp only [decide_true,Bool.not_true,Bool.false_eq_true,if_false,this]
   simp[wtO];omega
  ·have:=h1 o ho
   rw[if_pos (by simp;omega)]
   have hi:=ih h2 ho
   simp only [wtO,List.map_cons,List.sum_cons] at hi ⊢
   omega
theorem wtO_set {l:List Ox} (h:l.Pairwise (fun a b=>a.id<b.id)) {o o':Ox} (ho:o∈l) (e:o'.id=o.id):wtO (l.map (fun x=>if x.id=o'.id then o' else x))+o.own.length=wtO l+o'.own.length:=by
 induction l with
 | nil=>simp at ho
 | cons x r ih=>
  obtain⟨h1,h2⟩:=List.pairwise_cons.1 h
  rcases List.mem_cons.1 ho with rfl|ho
  ·have:r.map (fun x=>if x.id=o'.id then o' else x)=r:=by
    conv=>rhs;rw[<- List.map_id r]
    apply List.map_congr_left
    intro y hy
    have:=h1 y hy
    rw[if_neg (by omega)];rfl
   rw[List.map_cons,this,if_pos e.symm]
   simp[wtO];omega
  ·have:=h1 o ho
   have hi:=ih h2 ho
   rw[List.map_cons,if_neg (by omega)]
   simp only [wtO,List.map_cons,List.sum_cons] at hi ⊢
   omega
theorem wt_bg (d:Dk):wt (bgD d)=wt d/\(bgD d).ids<=d.ids+1/\(bgD d).lg=d.lg/\(bgD d).vs=d.vs:=by
 unfold bgD
 split
 ·refine⟨?_,Int.le_refl _,rfl,rfl⟩
  show wtL d.lg.ls+wtO (d.op ++ [_])=_
  rw[wtO_app];simp[wt]
 ·exact⟨rfl,by omega,rfl,rfl⟩
theorem wt_dc {d:Dk} (h:OkD d) (i:Int) (c:Chg):wt (dcD d i c)<=wt d+1/\(dcD d i c).ids=d.ids/\(dcD d i c).lg=d.lg/\(dcD d i c).vs=d.vs:=by
 unfold dcD
 cases e:opI d i with
 | none=>exact⟨by simp,rfl,rfl,rfl⟩
 | some o=>
  obtain⟨h1,h2⟩:=opI_some e
  simp only
  split
  ·split
   ·exact⟨by simp,rfl,rfl,rfl⟩
   ·refine⟨?_,rfl,rfl,rfl⟩
    have key:wtO (opSet d { o with own:=insC o.own c }).op+o.own.length=wtO d.op+(insC o.own c).length:=wtO_set h.ids (o':={ o with own:=insC o.own c }) h1 rfl
    have hl:=len_insC o.own c
    show wtL d.lg.ls+wtO (opSet d { o with own:=insC o.own c }).op<=wtL d.lg.ls+wtO d.op+1
    omega
  ·exact⟨by simp,rfl,rfl,rfl⟩
theorem cm_cases {d:Dk} (h:OkD d) (i:Int):((cmD d i).lg.ls=d.lg.ls/\(cmD d i).vs=d.vs/\(cmD d i).lg.safe=d.lg.safe/\wt (cmD d i)<=wt d/\(cmF d i=0->cmN d i<=d.last/\0<=cmN d i)) ∨
  (∃ own,chF own=0/\(cmD d i).lg.ls=d.lg.ls ++ [own]/\(cmD d i).vs=d.vs++own.map (verC (d.last+1))/\(cmD d i).lg.safe=d.lg.safe/\wt (cmD d i)=wt d/\cmF d i=0/\cmN d i=d.last+1):=by
 have h0:(0:Int)<=d.last:=by rw[h.last];omega
 unfold cmD cmF cmN
 cases e:opI d i with
 | none=>exact .inl ⟨rfl,rfl,rfl,Nat.le_refl _,fun g=>by cases g⟩
 | some o=>
  obtain⟨h1,h2⟩:=opI_some e
  subst h2
  have ho:=h.op o h1
  have hdel:wtO (opDel d o.id).op+o.own.length=wtO d.op:=wtO_del h.ids h1
  have hls:=ls_ap d.lg o.own
  have hsf:=safe_ap d.lg o.own
  have hle:wt (opDel d o.id)<=wt d:=by
   show wtL d.lg.ls+wtO (opDel d o.id).op<=wtL d.lg.ls+wtO d.op
   omega
  simp only
  by_cases c:clash d.vs o=true
  ·rw[if_pos c,if_pos c,if_pos c]
   exact .inl ⟨rfl,rfl,rfl,hle,fun g=>by cases g⟩
  ·rw[if_neg c,if_neg c,if_neg c]
   by_cases c2:o.own=[]
   ·rw[if_pos c2,if_pos c2,if_pos c2]
    exact .inl ⟨rfl,rfl,rfl,hle,fun _=>⟨ho.s1,ho.s0⟩⟩
   ·rw[if_neg c2,if_neg c2,if_neg c2]
    by_cases c3:apF d.lg o.own=0
    ·rw[if_pos c3,if_pos c3]
     rw[if_pos c3] at hls
     refine .inr ⟨o.own,ho.own,hls,rfl,hsf,?_,c3,rfl⟩
     show wtL (apG d.lg o.own).ls+wtO (opDel d o.id).op=wtL d.lg.ls+wtO d.op
     rw[hls,wtL_app]
     omega
    ·rw[if_neg c3,if_neg c3]
     rw[if_neg c3] at hls
     refine .inl ⟨hls,rfl,hsf,?_,fun g=>absurd g c3⟩
     show wtL (apG d.lg o.own).ls+wtO (opDel d o.id).op<=wtL d.lg.ls+wtO d.op
     rw[hls]
     omega
theorem cm_ids (d:Dk) (i:Int):(cmD d i).ids=d.ids:=by
 unfold cmD
 cases opI d i with
 | none=>rfl
 | some o=>
  simp only
  split
  ·rfl
  ·split
   ·rfl
   ·split <;> rfl
theorem wtL_take (ls:List (List Chg)) (k:Nat):wtL (ls.take k)<=wtL ls:=by
 conv=>rhs;rw[<- List.take_append_drop k ls]
 simp only [wtL,List.map_append,List.sum_append];omega
end Vs
namespace Vs
open Go
structure UpL (g:Lg):Prop where
 up:g.down=false
 nv:g.left = -1
 rm:g.room=100000
theorem UpL.new:UpL (lg0 100000):=⟨rfl,rfl,rfl⟩
end Vs
namespace Vs
open Go
theorem bl_more (k:ByteArray):bl k (mkB (k.data.toList ++ [0]))=true:=by
 unfold bl
 rw[Lib.toList_data,Lib.toList_data,mkB_list]
 generalize k.data.toList=l
 induction l with
 | nil=>rfl
 | cons x r ih=>simp[Op.bytesLess,ih]
theorem bls_zero:∀ (x l:List UInt8),Op.bytesLess x (l ++ [0])=true->Op.bytesLess x l=false->x=l
 | [],[],_,_=>rfl
 | [],a :: r,_,h=>by simp[Op.bytesLess] at h
 | y :: ys,[],h,_=>by
  simp[Op.bytesLess] at h
 | y :: ys,a :: r,h,g=>by
  simp only [List.cons_append,Op.bytesLess,Bool.or_eq_true,Bool.and_eq_true,decide_eq_true_eq,beq_iff_eq,Bool.or_eq_false_iff,Bool.and_eq_false_iff,decide_eq_false_iff_not,beq_eq_false_iff_ne] at h g
  rcases h with h|⟨rfl,h⟩
  ·exact absurd h g.1
  ·have:=g.2.resolve_left (fun q=>q rfl)
   rw[bls_zero ys r h this]
def kz (k:ByteArray):ByteArray:=mkB (k.data.toList ++ [0])
theorem btw_kz (k x:ByteArray):btw k (kz k) x=true↔x=k:=by
 constructor
 ·intro h
  simp only [btw,Bool.and_eq_true,Bool.not_eq_true'] at h
  have h1:=h.1
  have h2:=h.2
  unfold bl at h1 h2
  rw[Lib.toList_data,Lib.toList_data] at h1
  rw[Lib.toList_data,Lib.toList_data,kz,mkB_list] at h2
  have:=bls_zero _ _ h2 h1
  exact toL.1 (by rw[Lib.toList_data,Lib.toList_data];exact this)
 ·rintro rfl
  simp only [btw,bl_irr,Bool.not_false,Bool.true_and]
  exact bl_more x
theorem kz_add (k:ByteArray):k++({ data:=#[0] }:ByteArray)=kz k:=by
 apply toL.1
 rw[Lib.toList_data,Lib.toList_data,kz,mkB_list]
 simp
end Vs
namespace Vs
open Go
theorem vtch_kz (vs:List Ver) (k:ByteArray) (a:Int):vtch vs k (kz k) a=snc vs k a:=by
 unfold vtch snc
 congr 1
 funext x
 congr 1
 have:=btw_kz k x.k
 by_cases c:x.k=k
 ·rw[decide_eq_true c,this.2 c]
 ·rw[decide_eq_false c]
  cases e:btw k (kz k) x.k
  ·rfl
  ·exact absurd (this.1 e) c
end Vs
namespace Vs
open Go
theorem allAt_is {vs:List Ver} {top:Int} (hT:OkT vs top) (a:Int):rises (allAt vs a) /\ ∀ p,p∈allAt vs a↔vget vs p.1 a=some p.2:=by
 have hk:(vs.filter (allV vs a)).Pairwise (fun x y=>x.k≠y.k):=by
  refine (hT.once.filter (allV vs a)).imp_of_mem (fun {x y} hx hy h=>?_)
  intro e
  have h1:=(List.mem_filter.1 hx).2
  have h2:=(List.mem_filter.1 hy).2
  simp only [allV,Bool.and_eq_true,decide_eq_true_eq] at h1 h2
  rw[e,h2.2] at h1
  exact h ⟨e,by rw[Option.some.inj h1.2]⟩
 obtain⟨h1,h2⟩:=fold_ins (vs.filter (allV vs a)) [] .nil (fun _ _ q hq=>by simp at hq) hk
 refine⟨h1,fun p=>?_⟩
 rw[allAt,h2 p,vget_some]
 constructor
 ·rintro (h|⟨x,hx,rfl⟩)
  ·simp at h
  ·have h3:=(List.mem_filter.1 hx).2
   simp only [allV,Bool.and_eq_true,decide_eq_true_eq,Bool.not_eq_true'] at h3
   exact⟨x,h3.2,h3.1,rfl⟩
 ·rintro ⟨x,h4,h5,h6⟩
  obtain⟨g1,g2,g3⟩:=see_some h4
  refine .inr ⟨x,List.mem_filter.2 ⟨g1,?_⟩,?_⟩
  ·simp only [allV,Bool.and_eq_true,decide_eq_true_eq,Bool.not_eq_true']
   rw[g2];exact⟨h5,h4⟩
  ·rw[g2,h6]
end Vs
namespace Vs
open Go
def hs (l:List Ver) (s:ByteArray):List Ver:=l.filter (fun x=>decide (x.k=s))
theorem mem_hs {l:List Ver} {s:ByteArray} {x:Ver}:x∈hs l s↔x∈l/\x.k=s:=by simp[hs]
theorem len_hs (l:List Ver) (s:ByteArray):(hs l s).length<=l.length:=List.length_filter_le _ _
theorem hs_nil {l:List Ver} {s:ByteArray}:hs l s=[] ↔ ∀ x∈l,x.k≠s:=by
 rw[hs,List.filter_eq_nil_iff]
 simp
abbrev Up (h:List Ver):Prop:=h.Pairwise (fun x y=>x.n<y.n)
theorem hs_up {l:List Ver} {top:Int} (hT:OkT l top) (s:ByteArray):Up (hs l s):=by
 refine ((hT.rise.and hT.once).filter _).imp_of_mem (fun {x y} hx hy h=>?_)
 have h1:x.k=s:=by simpa using (List.mem_filter.1 hx).2
 have h2:y.k=s:=by simpa using (List.mem_filter.1 hy).2
 have h3:¬ x.n=y.n:=fun e=>h.2 ⟨h1.trans h2.symm,e⟩
 have:=h.1
 omega
def upN (h:List Ver) (a:Int):Nat:=h.countP (fun x=>decide (x.n<=a))
theorem upN_le (h:List Ver) (a:Int):upN h a<=h.length:=List.countP_le_length
theorem upN_take:∀ {h:List Ver} (_:Up h) (a:Int),h.filter (fun x=>decide (x.n<=a))=h.take (upN h a)
 | [],_,_=>rfl
 | x :: r,hu,a=>by
  obtain⟨h1,h2⟩:=List.pairwise_cons.1 hu
  by_cases c:x.n<=a
  ·rw[List.filter_cons_of_pos (by simpa using c),upN,List.countP_cons_of_pos (by simpa using c),List.take_succ_cons,upN_take h2 a,upN]
  ·have e:r.filter (fun x=>decide (x.n<=a))=[]:=List.filter_eq_nil_iff.2 (fun y hy=>by have:=h1 y hy;simp;omega)
   rw[List.filter_cons_of_neg (by simpa using c),e,upN,List.countP_cons_of_neg (by simpa using c),List.countP_eq_length_filter,e]
   rfl
theorem upN_drop:∀ {h:List Ver} (_:Up h) (a:Int),h.filter (fun x=>decide (a<x.n))=h.drop (upN h a)
 | [],_,_=>rfl
 | x :: r,hu,a=>by
  obtain⟨h1,h2⟩:=List.pairwise_cons.1 hu
  by_cases c:x.n<=a
  ·rw[List.filter_cons_of_neg (by simp;omega),upN,List.countP_cons_of_pos (by simpa using c),List.drop_succ_cons,upN_drop h2 a,upN]
  ·have e:r.filter (fun x=>decide (x.n<=a))=[]:=List.filter_eq_nil_iff.2 (fun y hy=>by have:=h1 y hy;simp;omega)
   have e2:(x :: r).filter (fun x=>decide (a<x.n))=x :: r:=List.filter_eq_self.2 (fun y hy=>by
    rcases List.mem_cons.1 hy with rfl|hy
    ·simp;omega
    ·have:=h1 y hy;simp;omega)
   rw[e2,upN,List.countP_cons_of_neg (by simpa using c),List.countP_eq_length_filter,e]
   rfl
theorem upN_at {h:List Ver} (hu:Up h) (a:Int) {i:Nat} {x:Ver} (hx:h[i]? = some x):x.n<=a↔i<upN h a:=by
 constructor
 ·intro c
  apply Classical.byContradiction
  intro g
  have:x∈h.drop (upN h a):=by
   rw[List.mem_iff_getElem?]
   exact⟨i - upN h a,by rw[List.getElem?_drop,show upN h a+(i - upN h a)=i from by omega];exact hx⟩
  rw[<- upN_drop hu,List.mem_filter] at this
  have:=this.2
  simp at this
  omega
 ·intro c
  have:x∈h.take (upN h a):=by
   rw[List.mem_iff_getElem?]
   exact⟨i,by rw[List.getElem?_take,if_pos c];exact hx⟩
  rw[<- upN_take hu,List.mem_filter] at this
  simpa using this.2
theorem upN_cnt (h:List Ver) (a:Int) (p:Nat->Bool) (hp:∀ i x,h[i]? = some x->p i=decide (a<x.n)):(List.range h.length).countP (fun i => !p i)=upN h a:=by
 have key:∀ (r:List Ver) (o:Nat),(∀ i x,r[i]? = some x->p (o+i)=decide (a<x.n))->(List.range' o r.length).countP (fun i => !p i)=upN r a:=by
  intro r
  induction r with
  | nil=>intro o _;rfl
  | cons x r ih=>
   intro o hr
   have h0:=hr 0 x rfl
   rw[List.length_cons,List.range'_succ,List.countP_cons,ih (o+1) (fun i y hy=>by rw[show o+1+i=o+(i+1) from by omega];exact hr (i+1) y (by simpa using hy)),upN,upN,List.countP_cons]
   congr 1
   rw[show o+0=o from rfl] at h0
   rw[h0]
   by_cases c:x.n<=a
   ·have:¬ a<x.n:=by omega
    simp[c,this]
   ·have:a<x.n:=by omega
    simp[c,this]
 rw[List.range_eq_range']
 exact key h 0 (fun i x hx=>by rw[Nat.zero_add];exact hp i x hx)
def seeH (h:List Ver) (a:Int):Option Ver:=(h.take (upN h a)).getLast?
theorem see_hs {l:List Ver} {top:Int} (hT:OkT l top) (s:ByteArray) (a:Int):see l s a=seeH (hs l s) a:=by
 rw[seeH,<- upN_take (hs_up hT s),see,hs,List.filter_filter]
 congr 1
 apply List.filter_congr
 intro x _
 rw[hit,Bool.and_comm]
theorem seeH_0 {h:List Ver} {a:Int} (e:upN h a=0):seeH h a=none:=by rw[seeH,e];rfl
theorem seeH_at {h:List Ver} {a:Int} (e:0<upN h a):∃ x,h[upN h a - 1]? = some x/\seeH h a=some x:=by
 have h1:=upN_le h a
 have hi:upN h a - 1<h.length:=by omega
 refine⟨h[upN h a - 1],List.getElem?_eq_getElem hi,?_⟩
 rw[seeH,List.getLast?_eq_getElem?,List.length_take,Nat.min_eq_left h1,List.getElem?_take,if_pos (by omega)]
 exact List.getElem?_eq_getElem hi
def vlH (h:List Ver) (a:Int):Option ByteArray:=match seeH h a with
 | some x=>if x.g=true then none else some x.v
 | none=>none
theorem vget_hs {l:List Ver} {top:Int} (hT:OkT l top) (s:ByteArray) (a:Int):vget l s a=vlH (hs l s) a:=by
 rw[vget,see_hs hT];rfl
def lsN (h:List Ver):Int:=match h.getLast? with
 | some x=>x.n
 | none=>0
theorem lsN_nil:lsN []=0:=rfl
theorem lsN_at {h:List Ver} (e:0<h.length):∃ x,h[h.length - 1]? = some x/\lsN h=x.n:=by
 have hi:h.length - 1<h.length:=by omega
 refine⟨h[h.length - 1],List.getElem?_eq_getElem hi,?_⟩
 rw[lsN,List.getLast?_eq_getElem?,List.getElem?_eq_getElem hi]
def wiH (h:List Ver) (x:Ver):List Ver:=(if lsN h=x.n then h.dropLast else h) ++ [x]
theorem hs_put {l:List Ver} {top:Int} (hT:OkT l top) {x:Ver} (hx:ptF x top=0):hs (vput l x) x.k=wiH (hs l x.k) x:=by
 obtain⟨hv,ht⟩:=ptF_ok hx
 have hu:=hs_up hT x.k
 have hb:∀ y∈hs l x.k,y.n<=x.n/\y.k=x.k:=fun y hy=>by
  obtain⟨h1,h2⟩:=mem_hs.1 hy
  have:=(hT.each y h1).2
  exact⟨by omega,h2⟩
 have e1:hs (vput l x) x.k=(hs l x.k).filter (fun y => !same x y) ++ [x]:=by
  rw[hs,vput,List.filter_append,hs,List.filter_filter,List.filter_filter]
  congr 1
  ·apply List.filter_congr
   intro y _
   rw[Bool.and_comm]
  ·simp
 rw[e1,wiH]
 congr 1
 generalize hs l x.k=h at hu hb
 rcases List.eq_nil_or_concat h with rfl|⟨r,z,rfl⟩
 ·have:¬ lsN []=x.n:=by have:=hv.2.2.2.1;rw[lsN_nil];omega
  rw[if_neg this];rfl
 ·have hz:=hb z (by simp)
  have hl:lsN (r ++ [z])=z.n:=by simp[lsN]
  have hr:r.filter (fun y => !same x y)=r:=List.filter_eq_self.2 (fun y hy=>by
   have h1:=(List.pairwise_append.1 (by simpa using hu)).2.2 y hy z (by simp)
   have:¬ y.n=x.n:=by have:=hz.1;omega
   simp[same,this])
  simp only [List.concat_eq_append] at *
  rw[List.filter_append,hr,hl]
  by_cases c:z.n=x.n
  ·rw[if_pos c]
   simp[same,c,hz.2]
  ·rw[if_neg c]
   simp[same,c]
theorem hs_put_other {l:List Ver} {x:Ver} {s:ByteArray} (hne:s≠x.k):hs (vput l x) s=hs l s:=by
 rw[hs,vput,List.filter_append,hs,List.filter_filter]
 rw[show [x].filter (fun y=>decide (y.k=s))=[] from by simp;exact fun e=>hne e.symm,List.append_nil]
 apply List.filter_congr
 intro y _
 by_cases c:y.k=s
 ·simp[same,c,hne]
 ·simp[c]
theorem wiH_ne (h:List Ver) (x:Ver):wiH h x ≠ []:=by simp[wiH]
theorem vtch_hs {l:List Ver} {top:Int} (hT:OkT l top) (lo hi:ByteArray) (a:Int) (ha:0<=a):vtch l lo hi a=true ↔ ∃ s,btw lo hi s=true/\a<lsN (hs l s):=by
 rw[vtch,List.any_eq_true]
 constructor
 ·rintro ⟨x,hx,h⟩
  simp only [Bool.and_eq_true,decide_eq_true_eq] at h
  refine⟨x.k,h.1,?_⟩
  have hm:x∈hs l x.k:=mem_hs.2 ⟨hx,rfl⟩
  have hu:=hs_up hT x.k
  generalize hs l x.k=g at hm hu
  rcases List.eq_nil_or_concat g with rfl|⟨r,z,rfl⟩
  ·simp at hm
  ·simp only [List.concat_eq_append] at *
   have hl:lsN (r ++ [z])=z.n:=by simp[lsN]
   rw[hl]
   rcases List.mem_append.1 hm with m|m
   ·have:=(List.pairwise_append.1 hu).2.2 x m z (by simp)
    omega
   ·rw[<- List.mem_singleton.1 m];exact h.2
 ·rintro ⟨s,h1,h2⟩
  by_cases e:0<(hs l s).length
  ·obtain⟨x,hx,hn⟩:=lsN_at e
   obtain⟨m1,m2⟩:=mem_hs.1 (List.mem_of_getElem? hx)
   exact⟨x,m1,by rw[m2,h1];rw[hn] at h2;simpa using h2⟩
  ·have:hs l s=[]:=List.eq_nil_of_length_eq_zero (by omega)
   rw[this,lsN_nil] at h2
   omega
theorem nodup_le {α : Type} [DecidableEq α]:∀ {ks ms:List α},ks.Nodup->(∀ x∈ks,x∈ms)->ks.length<=ms.length
 | [],_,_,_=>Nat.zero_le _
 | k :: r,ms,hn,hm=>by
  obtain⟨h1,h2⟩:=List.nodup_cons.1 hn
  have:=nodup_le (ms:=ms.erase k) h2 (fun x hx=>(List.mem_erase_of_ne (fun e=>h1 (by rw[<- e];exact hx))).2 (hm x (by simp[hx])))
  rw[List.length_erase_of_mem (hm k (by simp))] at this
  have h0:0<ms.length:=List.length_pos_of_mem (hm k (by simp))
  rw[List.length_cons];omega
end Vs
namespace Vs
open Go
structure AskR (qs:List Pr) (o:Ox):Prop where
 len:(qs.length:Int)=o.asked
 mem:∀ s,s∈qs↔(∃ k∈o.keys,s=(k,kz k)) \/ s∈o.spans
theorem AskR.new (i s:Int):AskR [] ⟨i,s,0,[],[],[]⟩:=⟨rfl,fun s=>by simp⟩
theorem AskR.key {qs:List Pr} {o:Ox} (h:AskR qs o) (k:ByteArray):AskR (qs ++ [(k,kz k)]) (askK o k):=by
 refine⟨?_,fun s=>?_⟩
 ·show ((qs ++ [(k,kz k)]).length:Int)=o.asked+1
  have:=h.len
  rw[List.length_append];simp;omega
 ·show _↔(∃ x∈o.keys ++ [k],s=(x,kz x)) \/ s∈o.spans
  rw[List.mem_append,h.mem s,List.mem_singleton]
  constructor
  ·rintro ((⟨x,hx,e⟩|g)|g)
   ·exact .inl ⟨x,List.mem_append.2 (.inl hx),e⟩
   ·exact .inr g
   ·exact .inl ⟨k,List.mem_append.2 (.inr (by simp)),g⟩
  ·rintro (⟨x,hx,e⟩|g)
   ·rcases List.mem_append.1 hx with hx|hx
    ·exact .inl (.inl ⟨x,hx,e⟩)
    ·rw[List.mem_singleton.1 hx] at e;exact .inr e
   ·exact .inl (.inr g)
theorem AskR.span {qs:List Pr} {o:Ox} (h:AskR qs o) (lo hi:ByteArray):AskR (qs ++ [(lo,hi)]) (askR o lo hi):=by
 refine⟨?_,fun s=>?_⟩
 ·show ((qs ++ [(lo,hi)]).length:Int)=o.asked+1
  have:=h.len
  rw[List.length_append];simp;omega
 ·show _↔(∃ x∈o.keys,s=(x,kz x)) \/ s∈o.spans ++ [(lo,hi)]
  rw[List.mem_append,h.mem s,List.mem_append,List.mem_singleton,or_assoc]
theorem clash_as {qs:List Pr} {o:Ox} (h:AskR qs o) (vs:List Ver):clash vs o=(qs.any (fun s=>vtch vs s.1 s.2 o.sees) || o.own.any (fun c=>vtch vs c.k (kz c.k) o.sees)):=by
 rw[Bool.eq_iff_iff]
 simp only [clash,Bool.or_eq_true,List.any_eq_true]
 constructor
 ·rintro ((⟨k,hk,e⟩|⟨c,hc,e⟩)|⟨s,hs,e⟩)
  ·exact .inl ⟨(k,kz k),(h.mem _).2 (.inl ⟨k,hk,rfl⟩),by rw[vtch_kz];exact e⟩
  ·exact .inr ⟨c,hc,by rw[vtch_kz];exact e⟩
  ·exact .inl ⟨s,(h.mem _).2 (.inr hs),e⟩
 ·rintro (⟨s,hs,e⟩|⟨c,hc,e⟩)
  ·rcases (h.mem s).1 hs with ⟨k,hk,rfl⟩|hs
   ·exact .inl (.inl ⟨k,hk,by rw[vtch_kz] at e;exact e⟩)
   ·exact .inr ⟨s,hs,e⟩
  ·exact .inl (.inr ⟨c,hc,by rw[vtch_kz] at e;exact e⟩)
theorem ownC_cons (x:Chg) (r:List Chg) (k:ByteArray):ownC (x :: r) k=if x.k=k then some x else ownC r k:=by
 unfold ownC
 rw[List.find?_cons]
 by_cases e:x.k=k
 ·simp[e]
 ·simp[e]
theorem insC_len:∀ {l:List Chg} (_:risC l) (c:Chg),(insC l c).length=if (ownC l c.k).isSome=true then l.length else l.length+1
 | [],_,c=>by simp[insC,ownC]
 | x :: r,h,c=>by
  obtain⟨h1,h2⟩:=List.pairwise_cons.1 h
  rw[insC,ownC_cons]
  by_cases e:c.k=x.k
  ·rw[if_pos e,if_pos e.symm];simp
  ·rw[if_neg e,if_neg (show ¬ x.k=c.k from fun g=>e g.symm)]
   by_cases b:bl c.k x.k=true
   ·rw[if_pos b,ownC_none.2 (fun y hy e'=>by have:=bl_trans b (h1 y hy);rw[e',bl_irr] at this;cases this)]
    simp
   ·rw[if_neg b,List.length_cons,insC_len h2 c]
    split <;> simp
structure Gto (own:List Chg) (base:List Pr) (lo hi:ByteArray) (left:ByteArray->Bool) (ps:List Pr):Prop where
 mem:∀ p,p∈ps↔p∈base \/ ((∃ c,ownC own p.1=some c/\c.g=false/\c.v=p.2)/\btw lo hi p.1=true/\left p.1=false)
 once:ps.Pairwise (fun p q=>p.1≠q.1)
theorem Gto.len {own:List Chg} {base:List Pr} {lo hi:ByteArray} {left:ByteArray->Bool} {ps:List Pr} (h:Gto own base lo hi left ps):ps.length<=base.length+own.length:=by
 have:=nodup_le (ks:=ps.map (·.1)) (ms:=base.map (·.1)++own.map (·.k)) (List.pairwise_map.2 h.once) (fun x hx=>by
  obtain⟨p,hp,rfl⟩:=List.mem_map.1 hx
  rcases (h.mem p).1 hp with g|⟨⟨c,g,_⟩,_⟩
  ·exact List.mem_append.2 (.inl (List.mem_map.2 ⟨p,g,rfl⟩))
  ·obtain⟨g1,g2⟩:=ownC_some g
   exact List.mem_append.2 (.inr (List.mem_map.2 ⟨c,g1,g2⟩)))
 simpa using this
theorem Gto.start {own:List Chg} {base:List Pr} {lo hi:ByteArray} {left:ByteArray->Bool} (hb:rises base) (h:∀ k c,ownC own k=some c->left k=true):Gto own base lo hi left base:=
 ⟨fun p=>⟨.inl,fun g=>g.elim id (fun⟨⟨c,g1,_⟩,_,g3⟩=>by rw[h _ c g1] at g3;cases g3)⟩,hb.imp (fun h=>bl_ne h)⟩
theorem Gto.skip {own:List Chg} {base:List Pr} {lo hi:ByteArray} {left left':ByteArray->Bool} {ps:List Pr} (h:Gto own base lo hi left ps) {s:ByteArray} {c:Chg} (hc:ownC own s=some c) (hl:∀ t,left' t=(left t && !decide (t=s))) (hn:btw lo hi s=false \/ c.g=true):Gto own base lo hi left' ps:=by
 refine⟨fun p=>?_,h.once⟩
 rw[h.mem p,hl]
 refine or_congr_right ?_
 by_cases e:p.1=s
 ·constructor
  ·rintro ⟨g1,g2,g3⟩;exact⟨g1,g2,by rw[g3];rfl⟩
  ·rintro ⟨⟨c',g1,g2,g4⟩,g5,_⟩
   rw[e] at g1 g5
   rw[hc] at g1
   cases g1
   rcases hn with hn|hn
   ·rw[hn] at g5;cases g5
   ·rw[hn] at g2;cases g2
 ·simp[e]
theorem Gto.more {own:List Chg} {base:List Pr} {lo hi:ByteArray} {left left':ByteArray->Bool} {ps:List Pr} (h:Gto own base lo hi left ps) (hbase:∀ p∈base,ownC own p.1=none) {s:ByteArray} {c:Chg} (hc:ownC own s=some c) (hs:left s=true) (hl:∀ t,left' t=(left t && !decide (t=s))) (hb:btw lo hi s=true) (hg:c.g=false):Gto own base lo hi left' (ps ++ [(s,c.v)]):=by
 have hno:∀ p∈ps,p.1≠s:=fun p hp e=>by
  rcases (h.mem p).1 hp with g|⟨_,_,g⟩
  ·have:=hbase p g;rw[e,hc] at this;cases this
  ·rw[e,hs] at g;cases g
 refine⟨fun p=>?_,List.pairwise_append.2 ⟨h.once,List.pairwise_singleton _ _,fun p hp q hq=>by rw[List.mem_singleton.1 hq];exact hno p hp⟩⟩
 rw[List.mem_append,h.mem p,hl,List.mem_singleton,or_assoc]
 refine or_congr_right ?_
 by_cases e:p.1=s
 ·constructor
  ·rintro (⟨_,_,g⟩|rfl)
   ·rw[e,hs] at g;cases g
   ·exact⟨⟨c,hc,hg,rfl⟩,hb,by simp⟩
  ·rintro ⟨⟨c',g1,g2,g3⟩,_,_⟩
   rw[e,hc] at g1
   cases g1
   exact .inr (Prod.ext e g3.symm)
 ·constructor
  ·rintro (⟨g1,g2,g3⟩|rfl)
   ·exact⟨g1,g2,by simp[g3]⟩
   ·exact absurd rfl e
  ·rintro ⟨g1,g2,g3⟩
   exact .inl ⟨g1,g2,by simpa [e] using g3⟩
def bsO (vs:List Ver) (sees:Int) (own:List Chg) (lo hi:ByteArray):List Pr:=(vrng vs lo hi sees).filter (fun p=>(ownC own p.1).isNone)
theorem bsO_rises {vs:List Ver} {top:Int} (hT:OkT vs top) (sees:Int) (own:List Chg) (lo hi:ByteArray):rises (bsO vs sees own lo hi):=(vrng_is hT lo hi sees).1.filter _
theorem bsO_no {vs:List Ver} {sees:Int} {own:List Chg} {lo hi:ByteArray}:∀ p∈bsO vs sees own lo hi,ownC own p.1=none:=fun p hp=>by
 have:=(List.mem_filter.1 hp).2
 rwa [Option.isNone_iff_eq_none] at this
theorem sorted_risesP {r s:List Pr} (hp:s.Perm r) (hs:s.Pairwise (fun p q=>bl q.1 p.1=false)) (hk:r.Pairwise (fun p q=>p.1≠q.1)):rises s:=by
 have hk2:s.Pairwise (fun p q=>p.1≠q.1):=(hp.pairwise_iff (fun {_ _} h=>Ne.symm h)).2 hk
 refine (hs.and hk2).imp (fun {p q} h=>?_)
 cases e:bl p.1 q.1
 ·exact absurd (bl_tri e h.1) h.2
 ·rfl
theorem Gto.all {vs:List Ver} {top:Int} (hT:OkT vs top) {own:List Chg} (hr:risC own) {sees:Int} {lo hi:ByteArray} {left:ByteArray->Bool} {ps ys:List Pr} (h:Gto own (bsO vs sees own lo hi) lo hi left ps) (hl:∀ t,left t=false) (hp:ys.Perm ps) (hs:ys.Pairwise (fun p q=>bl q.1 p.1=false)):ys=rngO vs sees own lo hi:=by
 obtain⟨g1,g2⟩:=rngO_is hT hr sees lo hi
 obtain⟨v1,v2⟩:=vrng_is hT lo hi sees
 refine rises_uniq (sorted_risesP hp hs h.once) g1 (fun p=>?_)
 rw[hp.mem_iff,h.mem p,g2 p,bsO,List.mem_filter,v2 p,hl,Option.isNone_iff_eq_none]
 unfold seeO
 cases e:ownC own p.1 with
 | none=>simp
 | some c=>
  cases eg:c.g
  ·simp[eg,and_comm]
  ·simp[eg]
def shL (vs:List Ver) (l:List Chg) (n:Int) (i:Nat):List Ver:=vs++(l.take i).map (verC n)
def shT (top n:Int) (i:Nat):Int:=if i=0 then top else n
theorem shL_len (vs:List Ver) (l:List Chg) (n:Int) (i:Nat):(shL vs l n i).length<=vs.length+l.length:=by
 rw[shL,List.length_append,List.length_map,List.length_take];omega
theorem shL_all (vs:List Ver) (l:List Chg) (n:Int):shL vs l n l.length=vs++l.map (verC n):=by rw[shL,List.take_length]
theorem sh_step {vs:List Ver} {top n:Int} {l:List Chg} (hT:OkT vs top) (hl:chF l=0) (hn:top<n) (hm:n<=1000000) {i:Nat} {c:Chg} (hc:l[i]? = some c) :
  ptF (verC n c) (shT top n i)=0/\vput (shL vs l n i) (verC n c)=shL vs l n (i+1)/\shT top n (i+1)=n:=by
 have hi:=(List.getElem?_eq_some_iff.1 hc).1
 have hcm:=List.mem_of_getElem? hc
 obtain⟨a1,a2,a3,_⟩:=chW_ok ((chF_ok hl).2 c hcm)
 have h0:=hT.t0
 refine⟨?_,?_,rfl⟩
 ·unfold ptF
  rw[show shF (verC n c).k (verC n c).v=0 from if_neg (by show ¬ (c.k.size<1 \/ 24<c.k.size \/ 12<c.v.size);omega),if_pos rfl,if_neg (by show ¬ (n<1 \/ 1000000<n);omega),if_neg]
  show ¬ n<shT top n i
  unfold shT
  split <;> omega
 ·rw[vput,List.filter_eq_self.2,shL,shL,List.take_add_one,hc,Option.toList_some,List.map_append,List.append_assoc]
  ·rfl
  ·intro y hy
   unfold same
   rw[shL] at hy
   rcases List.mem_append.1 hy with hy|hy
   ·have:=(hT.each y hy).2
    simp
    exact .inr (fun e=>by have e:y.n=n:=e;omega)
   ·obtain⟨x,hx,rfl⟩:=List.mem_map.1 hy
    obtain⟨j,hj,e⟩:=List.mem_iff_getElem.1 hx
    have hj2:j<i:=by
     have:=hj
     rw[List.length_take] at this;omega
    have hne:x.k≠c.k:=by
     have hr:=List.pairwise_iff_getElem.1 (chF_ris hl) j i (by omega) hi hj2
     have e1:l[j]=x:=by rw[<- e];simp
     have e2:l[i]=c:=(List.getElem?_eq_some_iff.1 hc).2
     rw[e1,e2] at hr
     exact bl_ne hr
    simp
    exact .inl hne
theorem tab_succ {ls:List (List Chg)} {i:Nat} {l:List Chg} (h:ls[i]? = some l):tab (ls.take (i+1))=tab (ls.take i)++l.map (verC (i+1)):=by
 have hi:=(List.getElem?_eq_some_iff.1 h).1
 rw[List.take_add_one,h,Option.toList_some,tab_app,List.length_take,show min i ls.length=i from by omega]
def hiK:ByteArray:=⟨(List.replicate 25 (255:UInt8)).toArray⟩
theorem bls_hi:∀ (x:List UInt8) (m:Nat),x.length<m->Op.bytesLess x (List.replicate m 255)=true
 | _,0,h=>by omega
 | [],m+1,_=>rfl
 | a :: r,m+1,h=>by
  rw[List.replicate_succ]
  simp only [Op.bytesLess,Bool.or_eq_true,Bool.and_eq_true,decide_eq_true_eq,beq_iff_eq]
  by_cases c:a<255
  ·exact .inl c
  ·refine .inr ⟨?_,bls_hi r m (by simpa using h)⟩
   have h1:¬ a.toNat<255:=fun g=>c (UInt8.lt_iff_toNat_lt.2 g)
   have h2:=a.toNat_lt
   exact UInt8.toNat_inj.1 (by show a.toNat=255;omega)
theorem btw_all {k:ByteArray} (h:k.size<=24):btw ByteArray.empty hiK k=true:=by
 have h1:bl k ByteArray.empty=false:=by
  unfold bl
  rw[Lib.toList_data,Lib.toList_data]
  show Op.bytesLess k.data.toList []=false
  cases k.data.toList <;> rfl
 have h2:bl k hiK=true:=by
  unfold bl
  rw[Lib.toList_data,Lib.toList_data]
  exact bls_hi k.data.toList 25 (by rw[Array.length_toList];show k.size<25;omega)
 rw[btw,h1,h2];rfl
theorem all_rng {d:Dk} (h:OkD d):vrng d.vs ByteArray.empty hiK d.last=allP d:=by
 obtain⟨g1,g2⟩:=vrng_is h.tb ByteArray.empty hiK d.last
 obtain⟨a1,a2⟩:=allAt_is h.tb d.last
 rw[allP_at]
 refine rises_uniq g1 a1 (fun p=>?_)
 rw[g2 p,a2 p]
 refine⟨And.right,fun e=>⟨?_,e⟩⟩
 obtain⟨x,h1,_,_⟩:=vget_some.1 e
 obtain⟨h2,h3,_⟩:=see_some h1
 rw[<- h3]
 exact btw_all ((h.tb.each x h2).1.2.1)
theorem sf_fl {d:Dk} (h:OkD d):(sfN (flD d):Int)=if flF d=0 then d.last else sfN d:=by
 have e:=ls_sy d.lg
 have hs:sfN (flD d)=(fitL (syG d.lg).safe d.lg.ls).length:=by show (fitL (syG d.lg).safe (syG d.lg).ls).length=_;rw[e]
 rw[hs]
 unfold flF syF syG
 by_cases h3:d.lg.down=true
 ·rw[if_pos h3,if_pos h3,if_neg (by decide)];rfl
 ·rw[if_neg h3,if_neg h3]
  by_cases h4:d.lg.left=0
  ·rw[if_pos h4,if_pos h4,if_neg (by decide)];rfl
  ·rw[if_neg h4,if_neg h4,if_pos rfl]
   show ((fitL d.lg.by.length d.lg.ls).length:Int)=d.last
   rw[(h.lg.up (by simpa using h3)).2,fitL_full (Nat.le_refl _)]
   exact h.last.symm
theorem fitL_same {n:Nat} {ls:List (List Chg)} (h:n<=(frs ls).length) (l:List Chg):(fitL n (ls ++ [l])).length=(fitL n ls).length:=by
 obtain⟨k,h1,h2,h3⟩:=fitL_take n (ls ++ [l])
 have hk:k<=ls.length:=by
  by_cases c:k<=ls.length
  ·exact c
  ·have e:k=(ls ++ [l]).length:=by simp at h1 ⊢;omega
   rw[e,List.take_length,frs_app,frs_one,List.length_append,fr_len] at h3
   omega
 have h4:=fitL_all (n:=n) (ls:=ls) (k:=k) hk (by rw[List.take_append_of_le_length hk] at h3;exact h3)
 have h5:(fitL n (ls ++ [l])).length=k:=by rw[h2,List.length_take];omega
 have:=fitL_more n ls l
 omega
theorem sf_cm {d:Dk} (h:OkD d) (i:Int):sfN (cmD d i)=sfN d:=by
 rcases cm_cases h i with ⟨h1,_,h3,_⟩|⟨own,_,h1,_,h3,_⟩
 ·unfold sfN;rw[h1,h3]
 ·unfold sfN;rw[h1,h3,fitL_same h.lg.safe]
theorem sf_cd (d:Dk) (n:Int):(sfN (cdD d n):Int)=(cdD d n).last:=by
 show (((fitL (frs (fitL (crN d.lg n) d.lg.ls)).length (fitL (crN d.lg n) d.lg.ls)).length:Nat):Int)=((crG d.lg n).ls.length:Int)
 rw[fitL_full (Nat.le_refl _)];rfl
theorem opI_set {d:Dk} {o o':Ox} (ho:opI d o.id=some o) (e:o'.id=o.id) (i:Int):opI (opSet d o') i=if i=o.id then some o' else opI d i:=by
 unfold opI opSet at *
 simp only
 generalize d.op=l at *
 induction l with
 | nil=>simp at ho
 | cons x r ih=>
  rw[List.map_cons,List.find?_cons,List.find?_cons]
  rw[List.find?_cons] at ho
  by_cases c:x.id=o'.id
  ·rw[if_pos c]
   by_cases c2:i=o.id
   ·rw[if_pos c2,decide_eq_true (show o'.id=i by omega)]
   ·rw[if_neg c2,decide_eq_false (show ¬ o'.id=i by omega),decide_eq_false (show ¬ x.id=i by omega)]
    simp only
    have:∀ (r:List Ox),(r.map (fun o=>if o.id=o'.id then o' else o)).find? (fun o=>decide (o.id=i))=r.find? (fun o=>decide (o.id=i)):=by
     intro r
     induction r with
     | nil=>rfl
     | cons y s ih2=>
      rw[List.map_cons,List.find?_cons,List.find?_cons,ih2]
      by_cases c3:y.id=o'.id
      ·rw[if_pos c3,decide_eq_false (show ¬ o'.id=i by omega),decide_eq_false (show ¬ y.id=i by omega)]
      ·rw[if_neg c3]
    exact this r
  ·rw[if_neg c]
   have hx:¬ x.id=o.id:=by omega
   rw[decide_eq_false hx] at ho
   by_cases c2:x.id=i
   ·rw[decide_eq_true c2,if_neg (by omega)]
   ·rw[decide_eq_false c2]
    exact ih ho
theorem opSet_same {d:Dk} (hp:d.op.Pairwise (fun a b=>a.id<b.id)) {o:Ox} (ho:o∈d.op):opSet d o=d:=by
 unfold opSet
 have:d.op.map (fun x=>if x.id=o.id then o else x)=d.op:=by
  conv=>rhs;rw[<- List.map_id d.op]
  refine List.map_congr_left (fun x hx=>?_)
  split
  ·rename_i e;rw[ids_once hp hx ho e];rfl
  ·rfl
 rw[this]
theorem opI_del (d:Dk) (i j:Int):opI (opDel d i) j=if j=i then none else opI d j:=by
 unfold opI opDel
 simp only
 generalize d.op=l
 by_cases c:j=i
 ·rw[if_pos c,List.find?_eq_none]
  intro x hx
  have:=(List.mem_filter.1 hx).2
  subst c
  simpa using this
 ·rw[if_neg c]
  induction l with
  | nil=>rfl
  | cons x r ih=>
   rw[List.filter_cons,List.find?_cons]
   by_cases c2:x.id=i
   ·rw[if_neg (by simp[c2]),ih,decide_eq_false (show ¬ x.id=j by omega)]
   ·rw[if_pos (by simp[c2]),List.find?_cons,ih]
theorem opI_app (d:Dk) (o:Ox) (l:Lg) (vs:List Ver) (t la ids:Int) (h:opI d o.id=none) (j:Int):opI ⟨l,vs,t,la,ids,d.op ++ [o]⟩ j=if j=o.id then some o else opI d j:=by
 unfold opI at *
 simp only
 rw[List.find?_append]
 by_cases c:j=o.id
 ·rw[if_pos c,c,h];simp
 ·rw[if_neg c]
  cases d.op.find? (fun o=>decide (o.id=j)) with
  | some x=>rfl
  | none=>simp;omega
end Vs
namespace Vs
open Go
def cutB (bs:List UInt8) (i n:Nat):ByteArray:=mkB ((bs.drop i).take n)
def decG (o:List Chg) (m:Nat) (r:List UInt8):Option (List Chg×List UInt8):=match decN m r with
 | some (l,t)=>some (o++l,t)
 | none=>none
theorem decG_zero (o:List Chg) (r:List UInt8):decG o 0 r=some (o,r):=by simp[decG,decN]
def decS (o:List Chg) (m:Nat):Option (Chg×List UInt8)->Option (List Chg×List UInt8)
 | some (c,s)=>decG (o ++ [c]) m s
 | none=>none
theorem decG_step (o:List Chg) (m:Nat) (r:List UInt8):decG o (m+1) r=decS o m (decC r):=by
 unfold decS
 unfold decG
 rw[decN]
 cases decC r with
 | none=>rfl
 | some cs=>
  obtain⟨c,s⟩:=cs
  show (match (match decN m s with|some (l,t)=>some (c :: l,t)|none=>none) with|some (l,t)=>some (o++l,t)|none=>none)=(match decN m s with|some (l,t)=>some (o ++ [c]++l,t)|none=>none)
  cases decN m s with
  | none=>rfl
  | some lt=>simp
def fin:Option (List Chg×List UInt8)->Option (List Chg)
 | some (l,[])=>if chF l=0 then some l else none
 | _=>none
end Vs
namespace Vs
def enS (l:List Chg):List UInt8:=if chF l=0 then encL l else []
def deS (b:List UInt8):List Chg:=(dec b).getD []
theorem dec_len {b:List UInt8}:(deS b).length<=20:=by
 unfold deS
 cases h:dec b with
 | none=>simp
 | some l=>exact (chF_ok (dec_sound h).1).1
end Vs
namespace Vs
open Go
theorem wtO_in:∀ {l:List Ox} {o:Ox},o∈l->o.own.length<=wtO l
 | x :: r,o,h=>by
  have e:wtO (x :: r)=x.own.length+wtO r:=by simp[wtO]
  rw[e]
  rcases List.mem_cons.1 h with rfl|h
  ·omega
  ·have:=wtO_in h;omega
end Vs
