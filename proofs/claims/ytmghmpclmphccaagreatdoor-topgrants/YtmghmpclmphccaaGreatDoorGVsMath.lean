/- -/
import Derived.Lib.Strings
namespace Vs
open Go
structure Ver where
 k:ByteArray
 v:ByteArray
 n:Int
 g:Bool
deriving DecidableEq
def bl (a b:ByteArray):Bool:=Op.bytesLess a.toList b.toList
theorem toL {a b:ByteArray}:a.toList=b.toList↔a=b:=by
 constructor
 ·intro h
  rw[Lib.toList_data,Lib.toList_data] at h
  cases a;cases b
  simpa using congrArg List.toArray h
 ·rintro rfl;rfl
theorem qO (a b:ByteArray):(a.toList==b.toList)=decide (a=b):=by
 by_cases h:a=b
 ·subst h;simp
 ·rw[decide_eq_false h]
  have:a.toList≠b.toList:=fun g=>h (toL.1 g)
  simpa using this
theorem Ue:∀x:List UInt8,Op.bytesLess x x=false
 | []=>rfl
 | a :: x=>by simp[Op.bytesLess,Ue x,UInt8.lt_irrefl]
theorem J8:∀x y z:List UInt8,Op.bytesLess x y=true->Op.bytesLess y z=true->Op.bytesLess x z=true
 | [],[],_,h,_=>by simp[Op.bytesLess] at h
 | [],_ :: _,[],_,h=>by simp[Op.bytesLess] at h
 | [],_ :: _,_ :: _,_,_=>by simp[Op.bytesLess]
 | _ :: _,[],_,h,_=>by simp[Op.bytesLess] at h
 | _ :: _,_ :: _,[],_,h=>by simp[Op.bytesLess] at h
 | a :: x,b :: y,c :: z,h1,h2=>by
  simp only [Op.bytesLess,Bool.or_eq_true,Bool.and_eq_true,decide_eq_true_eq,beq_iff_eq] at h1 h2 ⊢
  rcases h1 with h1|⟨rfl,h1⟩
  ·rcases h2 with h2|⟨rfl,h2⟩
   ·exact .inl (UInt8.lt_trans h1 h2)
   ·exact .inl h1
  ·rcases h2 with h2|⟨rfl,h2⟩
   ·exact .inl h2
   ·exact .inr ⟨rfl,J8 x y z h1 h2⟩
theorem Vo:∀x y:List UInt8,Op.bytesLess x y=false->Op.bytesLess y x=false->x=y
 | [],[],_,_=>rfl
 | [],_ :: _,h,_=>by simp[Op.bytesLess] at h
 | _ :: _,[],_,h=>by simp[Op.bytesLess] at h
 | a :: x,b :: y,h1,h2=>by
  simp only [Op.bytesLess,Bool.or_eq_false_iff,Bool.and_eq_false_iff,decide_eq_false_iff_not,beq_eq_false_iff_ne] at h1 h2
  have e:a=b:=UInt8.le_antisymm (UInt8.not_lt.1 h2.1) (UInt8.not_lt.1 h1.1)
  subst e
  have h1':=h1.2.resolve_left (fun g=>g rfl)
  have h2':=h2.2.resolve_left (fun g=>g rfl)
  rw[Vo x y h1' h2']
theorem dw (a:ByteArray):bl a a=false:=Ue _
theorem dA {a b c:ByteArray}(h1:bl a b=true)(h2:bl b c=true):bl a c=true:=J8 _ _ _ h1 h2
theorem qj {a b:ByteArray}(h1:bl a b=false)(h2:bl b a=false):a=b:=toL.1 (Vo _ _ h1 h2)
theorem UO {a b:ByteArray}(h1:bl a b=true):bl b a=false:=by
 cases h:bl b a
 ·rfl
 ·have:=dA h1 h;rw[dw] at this;cases this
theorem Qk {a b:ByteArray}(h:bl a b=true):a≠b:=fun e=>by rw[e,dw] at h;cases h
theorem AX {α : Type}{p : α -> Bool}{l:List α}{x : α}(h:x∈l.filter p):x∈l:=(List.mem_filter.1 h).1
def btw (lo hi k:ByteArray):Bool := !bl k lo&&bl k hi
def OkV (x:Ver):Prop:=1<=x.k.size/\x.k.size<=24/\x.v.size<=12/\1<=x.n/\x.n<=1000000
structure OkT (l:List Ver)(top:Int):Prop where
 each:∀x∈l,OkV x/\x.n<=top
 rise:l.Pairwise (fun x y=>x.n<=y.n)
 once:l.Pairwise (fun x y=>¬(x.k=y.k/\x.n=y.n))
 t0:0<=top
 t1:top<=1000000
theorem OkT.nil:OkT [] 0:=⟨fun _ h=>by simp at h,.nil,.nil,by decide,by decide⟩
def shF (k v:ByteArray):Int:=if k.size<1 \/ 24<k.size \/ 12<v.size then 2 else 0
def ptF (x:Ver)(top:Int):Int:=if shF x.k x.v=0 then (if x.n<1 \/ 1000000<x.n then 1 else if x.n<top then 7 else 0) else 2
theorem RF {x:Ver}{top:Int}(h:ptF x top=0):OkV x/\top<=x.n:=by
 unfold ptF shF at h
 by_cases h1:x.k.size<1 \/ 24<x.k.size \/ 12<x.v.size
 ·rw[if_pos h1] at h;simp at h
 ·rw[if_neg h1,if_pos rfl] at h
  by_cases h2:x.n<1 \/ 1000000<x.n
  ·rw[if_pos h2] at h;cases h
  ·rw[if_neg h2] at h
   by_cases h3:x.n<top
   ·rw[if_pos h3] at h;cases h
   ·exact⟨⟨by omega,by omega,by omega,by omega,by omega⟩,by omega⟩
def same (x y:Ver):Bool:=decide (y.k=x.k)&&decide (y.n=x.n)
def yt (l:List Ver)(x:Ver):List Ver:=l.filter (fun y => !same x y) ++ [x]
theorem OkT.put {l:List Ver}{top:Int}{x:Ver}(h:OkT l top)(hx:ptF x top=0):OkT (yt l x) x.n:=by
 obtain⟨hv,ht⟩:=RF hx
 have h0:=h.t0
 refine⟨fun y hy=>?_,?_,?_,by omega,hv.2.2.2.2⟩
 ·rcases List.mem_append.1 hy with hy|hy
  ·obtain⟨g1,g2⟩:=h.each y (AX hy)
   exact⟨g1,by omega⟩
  ·rw[List.mem_singleton.1 hy];exact⟨hv,Int.le_refl _⟩
 ·refine List.pairwise_append.2 ⟨h.rise.filter _,List.pairwise_singleton _ _,fun y hy z hz=>?_⟩
  rw[List.mem_singleton.1 hz]
  have:=(h.each y (AX hy)).2
  omega
 ·refine List.pairwise_append.2 ⟨h.once.filter _,List.pairwise_singleton _ _,fun y hy z hz=>?_⟩
  rw[List.mem_singleton.1 hz]
  have:=(List.mem_filter.1 hy).2
  rintro ⟨e1,e2⟩
  simp[same,e1,e2] at this
def hit (k:ByteArray)(a:Int)(x:Ver):Bool:=decide (x.k=k)&&decide (x.n<=a)
def see (l:List Ver)(k:ByteArray)(a:Int):Option Ver:=(l.filter (hit k a)).getLast?
theorem qG {l:List Ver}{k:ByteArray}{a:Int}{x:Ver}(h:see l k a=some x):x∈l/\x.k=k/\x.n<=a:=by
 have:=List.mem_of_getLast? h
 rw[List.mem_filter] at this
 simpa [hit] using this
def bG (l:List Ver)(k:ByteArray)(a:Int):Option ByteArray:=match see l k a with
 | some x=>if x.g=true then none else some x.v
 | none=>none
theorem iW {l:List Ver}{k:ByteArray}{a:Int}{v:ByteArray}:bG l k a=some v ↔ ∃x,see l k a=some x/\x.g=false/\x.v=v:=by
 unfold bG
 cases e:see l k a with
 | none=>simp
 | some x=>
  by_cases h:x.g=true
  ·simp[h]
  ·simp[h]
def kept (l:List Ver)(a:Int)(x:Ver):Bool:=decide (a<x.n) || (decide (see l x.k a=some x) && !x.g)
theorem xu {l:List Ver}{x:Ver}{k:ByteArray}{a:Int}(h:a<x.n):see (yt l x) k a=see l k a:=by
 unfold see yt
 rw[List.filter_append,show [x].filter (hit k a)=[] from by simp[hit];intro;omega,List.append_nil,List.filter_filter]
 congr 1
 apply List.filter_congr
 intro y _
 by_cases hy:hit k a y=true
 ·have:y.n≠x.n:=fun e=>by simp[hit] at hy;omega
  simp[hy,same,this]
 ·simp[hy]
structure Chg where
 k:ByteArray
 v:ByteArray
 g:Bool
deriving DecidableEq
def chW (c:Chg):Bool:=decide (shF c.k c.v≠0) || (c.g&&decide (0<c.v.size))
def chG:Option ByteArray->List Chg->Int
 | _,[]=>0
 | none,c :: r=>if chW c=true then 2 else chG (some c.k) r
 | some p,c :: r=>if chW c=true \/ bl p c.k=false then 2 else chG (some c.k) r
def chF (l:List Chg):Int:=if 20<l.length then 3 else chG none l
theorem iJ {c:Chg}(h:chW c=false):1<=c.k.size/\c.k.size<=24/\c.v.size<=12/\(c.g=true->c.v.size=0):=by
 simp only [chW,Bool.or_eq_false_iff,decide_eq_false_iff_not,Bool.and_eq_false_iff,Decidable.not_not] at h
 obtain⟨h1,h2⟩:=h
 have h3:¬(c.k.size<1 \/ 24<c.k.size \/ 12<c.v.size):=fun g=>by
  unfold shF at h1;rw[if_pos g] at h1;cases h1
 refine⟨by omega,by omega,by omega,fun g=>?_⟩
 rcases h2 with h2|h2
 ·rw[g] at h2;cases h2
 ·omega
theorem QW:∀{p:Option ByteArray} {l:List Chg},chG p l=0 -> ∀c∈l,chW c=false
 | none,x :: r,h,c,hc=>by
  rw[chG] at h
  split at h
  ·cases h
  ·rename_i e
   rcases List.mem_cons.1 hc with rfl|hc
   ·simpa using e
   ·exact QW h c hc
 | some p,x :: r,h,c,hc=>by
  rw[chG] at h
  split at h
  ·cases h
  ·rename_i e
   rcases List.mem_cons.1 hc with rfl|hc
   ·have:¬chW c=true:=fun g=>e (.inl g)
    simpa using this
   ·exact QW h c hc
theorem fU {l:List Chg}(h:chF l=0):l.length<=20 /\ ∀c∈l,chW c=false:=by
 unfold chF at h
 split at h
 ·cases h
 ·exact⟨by omega,QW h⟩
def cZ (c:Chg):List UInt8:=UInt8.ofNat (c.k.size+if c.g=true then 128 else 0) :: (c.k.data.toList++if c.g=true then [] else UInt8.ofNat c.v.size :: c.v.data.toList)
def bH (l:List Chg):List UInt8:=UInt8.ofNat l.length :: l.flatMap cZ
def mkB (l:List UInt8):ByteArray:=⟨l.toArray⟩
theorem EK (l:List UInt8):(mkB l).data.toList=l:=by simp[mkB]
theorem Du (b:ByteArray):mkB b.data.toList=b:=by
 cases b with
 | mk d=>show ByteArray.mk d.toList.toArray=_;rw[Array.toArray_toList]
theorem yY (b:ByteArray):b.data.toList.length=b.size:=rfl
def AY:List UInt8->Option (Chg×List UInt8)
 | []=>none
 | n :: r=>if r.length<n.toNat % 128 then none else
   if 127<n.toNat then some (⟨mkB (r.take (n.toNat % 128)),ByteArray.empty,true⟩,r.drop (n.toNat % 128)) else
   match r.drop (n.toNat % 128) with
   | []=>none
   | q :: s=>if s.length<q.toNat then none else some (⟨mkB (r.take (n.toNat % 128)),mkB (s.take q.toNat),false⟩,s.drop q.toNat)
def yI:Nat->List UInt8->Option (List Chg×List UInt8)
 | 0,r=>some ([],r)
 | k+1,r=>match AY r with
  | some (c,s)=>match yI k s with
   | some (l,t)=>some (c :: l,t)
   | none=>none
  | none=>none
def dec:List UInt8->Option (List Chg)
 | []=>none
 | n :: r=>match yI n.toNat r with
  | some (l,[])=>if chF l=0 then some l else none
  | _=>none
theorem Yj {c:Chg}(h:chW c=false)(r:List UInt8):AY (cZ c++r)=some (c,r):=by
 obtain⟨h1,h2,h3,h4⟩:=iJ h
 obtain⟨k,v,g⟩:=c
 simp only at h1 h2 h3 h4
 have hk:=yY k
 have hv:=yY v
 cases g
 ·have e1:(UInt8.ofNat (k.size+0)).toNat=k.size:=by simp;omega
  have e2:(UInt8.ofNat v.size).toNat=v.size:=by simp;omega
  simp only [cZ,Bool.false_eq_true,if_false,List.cons_append,List.append_assoc,AY,e1]
  rw[Nat.mod_eq_of_lt (by omega),if_neg (by simp[hk]),if_neg (by omega),List.drop_append_of_le_length (by omega),List.drop_of_length_le (by omega),List.nil_append]
  simp only [e2]
  rw[if_neg (by simp[hv]),List.take_append_of_le_length (by omega),List.take_of_length_le (by omega),List.take_append_of_le_length (by omega),List.take_of_length_le (by omega),List.drop_append_of_le_length (by omega),List.drop_of_length_le (by omega),List.nil_append,Du,Du]
 ·have e1:(UInt8.ofNat (k.size+128)).toNat=k.size+128:=by simp;omega
  have e3:v=ByteArray.empty:=by
   have h0:=h4 rfl
   cases v with
   | mk d=>
    have:d=#[]:=by simpa [ByteArray.size] using h0
    rw[this];rfl
  subst e3
  simp only [cZ,if_true,List.cons_append,List.append_nil,AY,e1]
  rw[show (k.size+128) % 128=k.size from by omega,if_neg (by simp[hk]),if_pos (by omega),List.take_append_of_le_length (by omega),List.take_of_length_le (by omega),List.drop_append_of_le_length (by omega),List.drop_of_length_le (by omega),List.nil_append,Du]
theorem P6:∀(l:List Chg),(∀c∈l,chW c=false) -> ∀r,yI l.length (l.flatMap cZ++r)=some (l,r)
 | [],_,r=>rfl
 | c :: l,h,r=>by
  rw[List.flatMap_cons,List.append_assoc,List.length_cons,yI,Yj (h c (by simp))]
  simp only [P6 l (fun x hx=>h x (by simp[hx])) r]
theorem acT {l:List Chg}(h:chF l=0)(r:List UInt8):dec (bH l++r)=if r=[] then some l else none:=by
 obtain⟨h1,h2⟩:=fU h
 have e1:(UInt8.ofNat l.length).toNat=l.length:=by simp;omega
 rw[bH,List.cons_append,dec,e1,P6 l h2 r]
 cases r with
 | nil=>simp[h]
 | cons x s=>simp
def fr (l:List Chg):List UInt8:=UInt8.ofNat ((bH l).length / 256) :: UInt8.ofNat ((bH l).length % 256) :: bH l
theorem fC (l:List Chg):(fr l).length=(bH l).length+2:=rfl
theorem OG (l:List Chg):0<(bH l).length:=by simp[bH]
def frs (ls:List (List Chg)):List UInt8:=ls.flatMap fr
theorem dD (l:List Chg)(ls:List (List Chg)):frs (l :: ls)=fr l++frs ls:=rfl
theorem qL (ls ms:List (List Chg)):frs (ls++ms)=frs ls++frs ms:=by simp[frs]
theorem zh (l:List Chg):frs [l]=fr l:=by simp[frs]
theorem NZ:∀ls:List (List Chg),ls.length*3<=(frs ls).length
 | []=>Nat.zero_le _
 | l :: ls=>by
  have:=NZ ls
  have h:=OG l
  rw[dD,List.length_append,fC,List.length_cons];omega
structure Lg where
 room:Int
 ls:List (List Chg)
 tl:List UInt8
 safe:Nat
 left:Int
 down:Bool
def Lg.by (g:Lg):List UInt8:=frs g.ls++g.tl
def lg0 (room:Int):Lg:=⟨room,[],[],0,-1,false⟩
structure OkL (g:Lg):Prop where
 r0:0<=g.room
 r1:g.room<=100000
 len:(g.by.length:Int)<=g.room
 each:∀l∈g.ls,chF l=0
 tail:g.tl=[] \/ (g.down=true /\ ∃l,chF l=0/\g.tl=(fr l).take ((fr l).length / 2))
 safe:g.safe<=(frs g.ls).length
 left : -1<=g.left
 lmax:g.left<=9223372036854775807
theorem OkL.new {room:Int}(h0:0<=room)(h1:room<=100000):OkL (lg0 room):=⟨h0,h1,by simpa [Lg.by,lg0,frs] using h0,fun l h=>by simp[lg0] at h,.inl rfl,Nat.zero_le _,Int.le_refl _,by show (-1:Int)<=_;decide⟩
theorem OkL.few {g:Lg}(h:OkL g):g.ls.length<=33334/\g.by.length<=100000/\(frs g.ls).length<=g.by.length:=by
 have h1:=NZ g.ls
 have h2:=h.len
 have h3:=h.r1
 have h4:g.by.length=(frs g.ls).length+g.tl.length:=by rw[Lg.by,List.length_append]
 omega
theorem OkL.up {g:Lg}(h:OkL g)(hd:g.down=false):g.tl=[]/\g.by=frs g.ls:=by
 have:g.tl=[]:=by
  rcases h.tail with e|⟨e,_⟩
  ·exact e
  ·rw[hd] at e;cases e
 exact⟨this,by rw[Lg.by,this,List.append_nil]⟩
def less (n:Int):Int:=if 0<n then n - 1 else n
theorem adg {n:Int}(h : -1<=n) : -1<=less n:=by
 unfold less
 split <;> omega
theorem acI {n m:Int}(h:n<=m):less n<=m:=by
 unfold less
 split <;> omega
def apF (g:Lg)(l:List Chg):Int:=if chF l=0 then (if g.room<g.by.length+2+(bH l).length then 3 else if g.down=true then 8 else if g.left=0 then 8 else 0) else chF l
def apG (g:Lg)(l:List Chg):Lg:=if chF l=0 then (if g.room<g.by.length+2+(bH l).length then g else if g.down=true then g else if g.left=0 then { g with tl:=(fr l).take ((fr l).length / 2),down:=true } else { g with ls:=g.ls ++ [l],left:=less g.left }) else g
theorem OkL.ap {g:Lg}(h:OkL g)(l:List Chg):OkL (apG g l):=by
 unfold apG
 by_cases h1:chF l=0
 ·rw[if_pos h1]
  by_cases h2:g.room<g.by.length+2+(bH l).length
  ·rw[if_pos h2];exact h
  ·rw[if_neg h2]
   by_cases h3:g.down=true
   ·rw[if_pos h3];exact h
   ·rw[if_neg h3]
    obtain⟨t0,tb⟩:=h.up (by simpa using h3)
    by_cases h4:g.left=0
    ·rw[if_pos h4]
     refine⟨h.r0,h.r1,?_,h.each,.inr ⟨rfl,l,h1,rfl⟩,h.safe,h.left,h.lmax⟩
     show ((frs g.ls++(fr l).take ((fr l).length / 2)).length:Int)<=g.room
     rw[List.length_append,List.length_take,fC,<- tb]
     omega
    ·rw[if_neg h4]
     refine⟨h.r0,h.r1,?_,fun m hm=>?_,.inl t0,?_,adg h.left,acI h.lmax⟩
     ·show ((frs (g.ls ++ [l])++g.tl).length:Int)<=g.room
      rw[qL,zh,t0,List.append_nil,List.length_append,fC,<- tb]
      omega
     ·rcases List.mem_append.1 hm with hm|hm
      ·exact h.each m hm
      ·rw[List.mem_singleton.1 hm];exact h1
     ·show g.safe<=(frs (g.ls ++ [l])).length
      rw[qL,List.length_append]
      have:=h.safe
      omega
 ·rw[if_neg h1];exact h
def syF (g:Lg):Int:=if g.down=true then 8 else if g.left=0 then 8 else 0
def syG (g:Lg):Lg:=if g.down=true then g else if g.left=0 then { g with down:=true } else { g with safe:=g.by.length,left:=less g.left }
def faG (g:Lg)(n:Int):Lg:={ g with left:=if n<0 then -1 else n }
def crN (g:Lg)(keep:Int):Nat:=if 0<keep then (if keep<(g.by.length:Int) - g.safe then g.safe+keep.toNat else g.by.length) else g.safe
def dG:Nat->List (List Chg)->List (List Chg)
 | _,[]=>[]
 | n,l :: r=>if (fr l).length<=n then l :: dG (n - (fr l).length) r else []
def crG (g:Lg)(keep:Int):Lg:=⟨g.room,dG (crN g keep) g.ls,[],(frs (dG (crN g keep) g.ls)).length,-1,false⟩
theorem iE:∀(n:Nat) (ls:List (List Chg)),∃k,k<=ls.length/\dG n ls=ls.take k/\(frs (ls.take k)).length<=n
 | _,[]=>⟨0,Nat.le_refl _,rfl,Nat.zero_le _⟩
 | n,l :: r=>by
  rw[dG]
  by_cases c:(fr l).length<=n
  ·rw[if_pos c]
   obtain⟨k,h1,h2,h3⟩:=iE (n - (fr l).length) r
   exact⟨k+1,by simpa using h1,by rw[h2];rfl,by rw[List.take_succ_cons,dD,List.length_append];omega⟩
  ·rw[if_neg c];exact⟨0,Nat.zero_le _,rfl,Nat.zero_le _⟩
theorem Ey:∀{n:Nat} {ls:List (List Chg)}{k:Nat},k<=ls.length->(frs (ls.take k)).length<=n->k<=(dG n ls).length
 | _,[],k,h,_=>by simp at h;omega
 | n,l :: r,0,_,_=>Nat.zero_le _
 | n,l :: r,k+1,h,h2=>by
  rw[List.take_succ_cons,dD,List.length_append] at h2
  rw[dG,if_pos (by omega)]
  have:=Ey (n:=n - (fr l).length) (ls:=r) (k:=k) (by simpa using h) (by omega)
  simpa using this
theorem OkL.cr {g:Lg}(h:OkL g)(keep:Int):OkL (crG g keep):=by
 obtain⟨k,h1,h2,h3⟩:=iE (crN g keep) g.ls
 have hf:=h.few
 have hl:=h.len
 have hp:(frs (dG (crN g keep) g.ls)).length<=(frs g.ls).length:=by
  rw[h2]
  conv=>rhs;rw[<- List.take_append_drop k g.ls,qL,List.length_append]
  omega
 refine⟨h.r0,h.r1,?_,fun l hl=>?_,.inl rfl,Nat.le_refl _,Int.le_refl _,by show (-1:Int)<=_;decide⟩
 ·show ((frs (dG (crN g keep) g.ls) ++ []).length:Int)<=g.room
  rw[List.append_nil];omega
 ·have hl:l∈dG (crN g keep) g.ls:=hl
  rw[h2] at hl
  exact h.each l (List.mem_of_mem_take hl)
def ends:Nat->List (List Chg)->List Int
 | _,[]=>[]
 | o,l :: r=>((o+(fr l).length:Nat):Int) :: ends (o+(fr l).length) r
theorem ade {n:Nat}{ls:List (List Chg)}{k:Nat}(hk:k<=ls.length)(h:(frs (ls.take k)).length<=n):dG n ls=ls.take k++dG (n - (frs (ls.take k)).length) (ls.drop k):=by
 induction k generalizing n ls with
 | zero=>simp[frs]
 | succ k ih=>
  cases ls with
  | nil=>simp at hk
  | cons l r=>
   rw[List.take_succ_cons,dD,List.length_append] at h
   rw[dG,if_pos (by omega),List.take_succ_cons,List.drop_succ_cons,dD,List.length_append,ih (by simpa using hk) (by omega),List.cons_append,Nat.sub_sub]
theorem Yv {n:Nat}{ls:List (List Chg)}{k:Nat}(hk:k<=ls.length)(h:(frs (ls.take k)).length<=n)(he:k=ls.length \/ n<(frs (ls.take (k+1))).length):dG n ls=ls.take k:=by
 rw[ade hk h]
 have:dG (n - (frs (ls.take k)).length) (ls.drop k)=[]:=by
  rcases he with e|e
  ·rw[e,List.drop_length];rfl
  ·by_cases c:k<ls.length
   ·have h2:ls.take (k+1)=ls.take k ++ [ls[k]]:=by rw[List.take_add_one,List.getElem?_eq_getElem c];rfl
    rw[h2,qL,zh,List.length_append] at e
    rw[List.drop_eq_getElem_cons c,dG,if_neg (by omega)]
   ·rw[List.drop_eq_nil_of_le (by omega)];rfl
 rw[this,List.append_nil]
abbrev Pr:=ByteArray×ByteArray
def rises (r:List Pr):Prop:=r.Pairwise (fun p q=>bl p.1 q.1=true)
theorem qX:∀{r s:List Pr},rises r->rises s->(∀p,p∈r↔p∈s)->r=s
 | [],[],_,_,_=>rfl
 | [],q :: s,_,_,h=>by have:=(h q).2 (by simp);simp at this
 | p :: r,[],_,_,h=>by have:=(h p).1 (by simp);simp at this
 | p :: r,q :: s,hr,hs,h=>by
  obtain⟨h1,h2⟩:=List.pairwise_cons.1 hr
  obtain⟨g1,g2⟩:=List.pairwise_cons.1 hs
  have e:p=q:=by
   rcases List.mem_cons.1 ((h p).1 (by simp)) with e|e
   ·exact e
   ·rcases List.mem_cons.1 ((h q).2 (by simp)) with e'|e'
    ·exact e'.symm
    ·have a1:=g1 p e
     have a2:=h1 q e'
     rw[UO a1] at a2;cases a2
  subst e
  have:r=s:=qX h2 g2 (fun x=>by
   have hx:=h x
   constructor
   ·intro m
    rcases List.mem_cons.1 (hx.1 (by simp[m])) with e|e
    ·subst e;have:=h1 x m;rw[dw] at this;cases this
    ·exact e
   ·intro m
    rcases List.mem_cons.1 (hx.2 (by simp[m])) with e|e
    ·subst e;have:=g1 x m;rw[dw] at this;cases this
    ·exact e)
  rw[this]
def qy:List Pr->Pr->List Pr
 | [],p=>[p]
 | q :: r,p=>if bl p.1 q.1=true then p :: q :: r else q :: qy r p
theorem qI:∀{r:List Pr} {p x:Pr},x∈qy r p↔x=p \/ x∈r
 | [],p,x=>by simp[qy]
 | q :: r,p,x=>by
  rw[qy]
  split
  ·simp
  ·rw[List.mem_cons,qI,List.mem_cons]
   constructor
   ·rintro (h|h|h)
    ·exact .inr (.inl h)
    ·exact .inl h
    ·exact .inr (.inr h)
   ·rintro (h|h|h)
    ·exact .inr (.inl h)
    ·exact .inl h
    ·exact .inr (.inr h)
theorem EG:∀(r:List Pr) (p:Pr),(qy r p).length=r.length+1
 | [],_=>rfl
 | q :: r,p=>by
  rw[qy]
  split
  ·simp
  ·simp[EG r p]
theorem yF:∀{r:List Pr} {p:Pr},rises r->(∀q∈r,q.1≠p.1)->rises (qy r p)
 | [],p,_,_=>List.pairwise_singleton _ _
 | q :: r,p,h,hn=>by
  obtain⟨h1,h2⟩:=List.pairwise_cons.1 h
  rw[qy]
  split
  ·rename_i c
   refine List.pairwise_cons.2 ⟨fun x hx=>?_,h⟩
   rcases List.mem_cons.1 hx with rfl|hx
   ·exact c
   ·exact dA c (h1 x hx)
  ·rename_i c
   have c':bl p.1 q.1=false:=by simpa using c
   refine List.pairwise_cons.2 ⟨fun x hx=>?_,yF h2 (fun y hy=>hn y (by simp[hy]))⟩
   rcases qI.1 hx with rfl|hx
   ·cases e:bl q.1 x.1
    ·exact absurd (qj e c') (hn q (by simp))
    ·rfl
   ·exact h1 x hx
def told (l:List Ver)(lo hi:ByteArray)(a:Int)(x:Ver):Bool:=btw lo hi x.k && !x.g&&decide (see l x.k a=some x)
def jd (l:List Ver)(lo hi:ByteArray)(a:Int):List Pr:=(l.filter (told l lo hi a)).foldl (fun r x=>qy r (x.k,x.v)) []
theorem Dh:∀(m:List Ver) (r:List Pr),rises r->(∀x∈m,∀q∈r,q.1≠x.k)->m.Pairwise (fun x y=>x.k≠y.k) →
  rises (m.foldl (fun r x=>qy r (x.k,x.v)) r) /\ ∀p,p∈m.foldl (fun r x=>qy r (x.k,x.v)) r↔p∈r \/ ∃x∈m,p=(x.k,x.v)
 | [],r,h,_,_=>⟨h,fun p=>by simp⟩
 | x :: m,r,h,hn,hp=>by
  obtain⟨h1,h2⟩:=List.pairwise_cons.1 hp
  obtain⟨i1,i2⟩:=Dh m (qy r (x.k,x.v)) (yF h (hn x (by simp))) (fun y hy q hq=>by
   rcases qI.1 hq with rfl|hq
   ·exact h1 y hy
   ·exact hn y (by simp[hy]) q hq) h2
  refine⟨i1,fun p=>?_⟩
  rw[List.foldl_cons,i2 p,qI]
  constructor
  ·rintro ((h|h)|⟨y,hy,h⟩)
   ·exact .inr ⟨x,by simp,h⟩
   ·exact .inl h
   ·exact .inr ⟨y,by simp[hy],h⟩
  ·rintro (h|⟨y,hy,h⟩)
   ·exact .inl (.inr h)
   ·rcases List.mem_cons.1 hy with rfl|hy
    ·exact .inl (.inl h)
    ·exact .inr ⟨y,hy,h⟩
theorem xM {l:List Ver}{top:Int}(hT:OkT l top)(lo hi:ByteArray)(a:Int):rises (jd l lo hi a) /\ ∀p,p∈jd l lo hi a↔btw lo hi p.1=true/\bG l p.1 a=some p.2:=by
 have hk:(l.filter (told l lo hi a)).Pairwise (fun x y=>x.k≠y.k):=by
  refine (hT.once.filter (told l lo hi a)).imp_of_mem (fun {x y} hx hy h=>?_)
  intro e
  have h1:=(List.mem_filter.1 hx).2
  have h2:=(List.mem_filter.1 hy).2
  simp only [told,Bool.and_eq_true,decide_eq_true_eq] at h1 h2
  rw[e,h2.2] at h1
  exact h ⟨e,by rw[Option.some.inj h1.2]⟩
 obtain⟨h1,h2⟩:=Dh (l.filter (told l lo hi a)) [] .nil (fun _ _ q hq=>by simp at hq) hk
 refine⟨h1,fun p=>?_⟩
 rw[jd,h2 p,iW]
 constructor
 ·rintro (h|⟨x,hx,rfl⟩)
  ·simp at h
  ·have h3:=(List.mem_filter.1 hx).2
   simp only [told,Bool.and_eq_true,decide_eq_true_eq,Bool.not_eq_true'] at h3
   exact⟨h3.1.1,x,h3.2,h3.1.2,rfl⟩
 ·rintro ⟨h3,x,h4,h5,h6⟩
  obtain⟨g1,g2,g3⟩:=qG h4
  refine .inr ⟨x,List.mem_filter.2 ⟨g1,?_⟩,?_⟩
  ·simp only [told,Bool.and_eq_true,decide_eq_true_eq,Bool.not_eq_true']
   rw[g2];exact⟨⟨h3,h5⟩,h4⟩
  ·rw[g2,h6]
theorem qJ:∀(m:List Ver) (r:List Pr),(m.foldl (fun r x=>qy r (x.k,x.v)) r).length=r.length+m.length
 | [],r=>by simp
 | x :: m,r=>by rw[List.foldl_cons,qJ m,EG,List.length_cons];omega
theorem Ou (l:List Ver)(lo hi:ByteArray)(a:Int):(jd l lo hi a).length<=l.length:=by
 rw[jd,qJ]
 simpa using List.length_filter_le _ _
def iO (l:List Ver)(lo hi:ByteArray)(a:Int):Bool:=l.any (fun x=>btw lo hi x.k&&decide (a<x.n))
def atF (a:Int):Int:=if a<0 \/ 1000000<a then 1 else 0
def gtF (l:List Ver)(k:ByteArray)(a:Int):Int:=if atF a=0 then (if (bG l k a).isSome=true then 0 else 4) else 1
def gtS (l:List Ver)(k:ByteArray)(a:Int):ByteArray:=if atF a=0 then (bG l k a).getD ByteArray.empty else ByteArray.empty
def rgS (l:List Ver)(lo hi:ByteArray)(a:Int):List Pr:=if atF a=0 then jd l lo hi a else []
def tcS (l:List Ver)(lo hi:ByteArray)(a:Int):Bool:=if atF a=0 then iO l lo hi a else false
structure Ox where
 id:Int
 sees:Int
 asked:Int
 keys:List ByteArray
 spans:List (ByteArray×ByteArray)
 own:List Chg
structure Dk where
 lg:Lg
 vs:List Ver
 top:Int
 last:Int
 ids:Int
 op:List Ox
def dk0 (room:Int):Dk:=⟨lg0 room,[],0,0,0,[]⟩
def fF (n:Int)(c:Chg):Ver:=⟨c.k,c.v,n,c.g⟩
def x9:Int->List (List Chg)->List Ver
 | _,[]=>[]
 | n,l :: r=>l.map (fF n)++x9 (n+1) r
def tab (ls:List (List Chg)):List Ver:=x9 1 ls
theorem PI:∀(n:Int) (ls:List (List Chg))(l:List Chg),x9 n (ls ++ [l])=x9 n ls++l.map (fF (n+ls.length))
 | n,[],l=>by simp[x9]
 | n,m :: r,l=>by
  rw[List.cons_append,x9,PI,x9,List.append_assoc,List.length_cons]
  congr 3
  have:n+1+(r.length:Int)=n+((r.length+1:Nat):Int):=by omega
  rw[this]
theorem TK (ls:List (List Chg))(l:List Chg):tab (ls ++ [l])=tab ls++l.map (fF (ls.length+1)):=by
 rw[tab,PI,tab]
 congr 2
 rw[Int.add_comm]
def wtL (ls:List (List Chg)):Nat:=(ls.map List.length).sum
theorem LJ (ls:List (List Chg))(l:List Chg):wtL (ls ++ [l])=wtL ls+l.length:=by simp[wtL]
theorem Po:∀(n:Int) (ls:List (List Chg)),(x9 n ls).length=wtL ls
 | _,[]=>rfl
 | n,l :: r=>by rw[x9,List.length_append,Po,List.length_map];simp[wtL]
theorem UG (ls:List (List Chg)):(tab ls).length=wtL ls:=Po 1 ls
def dP (l:List Chg):Prop:=l.Pairwise (fun a b=>bl a.k b.k=true)
theorem Na:∀{p:Option ByteArray} {l:List Chg},chG p l=0->dP l /\ ∀q,p=some q -> ∀c∈l,bl q c.k=true
 | none,[],_=>⟨.nil,fun q h=>by cases h⟩
 | some p,[],_=>⟨.nil,fun q _ c h=>by simp at h⟩
 | none,x :: r,h=>by
  rw[chG] at h
  split at h
  ·cases h
  ·obtain⟨h1,h2⟩:=Na h
   exact⟨List.pairwise_cons.2 ⟨h2 _ rfl,h1⟩,fun q h=>by cases h⟩
 | some p,x :: r,h=>by
  rw[chG] at h
  split at h
  ·cases h
  ·rename_i e
   obtain⟨h1,h2⟩:=Na h
   have hp:bl p x.k=true:=by
    cases e':bl p x.k
    ·exact absurd (.inr e') e
    ·rfl
   refine⟨List.pairwise_cons.2 ⟨h2 _ rfl,h1⟩,fun q hq c hc=>?_⟩
   cases hq
   rcases List.mem_cons.1 hc with rfl|hc
   ·exact hp
   ·exact dA hp (h2 _ rfl c hc)
theorem dV {l:List Chg}(h:chF l=0):dP l:=by
 unfold chF at h
 split at h
 ·cases h
 ·exact (Na h).1
theorem NY:∀{l:List Chg} {p:Option ByteArray},dP l->(∀c∈l,chW c=false)->(∀q,p=some q -> ∀c∈l,bl q c.k=true)->chG p l=0
 | [],none,_,_,_=>rfl
 | [],some _,_,_,_=>rfl
 | x :: r,none,h,hw,hq=>by
  obtain⟨h1,h2⟩:=List.pairwise_cons.1 h
  rw[chG,if_neg (by rw[hw x (by simp)];decide)]
  exact NY h2 (fun c hc=>hw c (by simp[hc])) (fun q e c hc=>by cases e;exact h1 c hc)
 | x :: r,some p,h,hw,hq=>by
  obtain⟨h1,h2⟩:=List.pairwise_cons.1 h
  rw[chG,if_neg (by rw[hw x (by simp),hq p rfl x (by simp)];decide)]
  exact NY h2 (fun c hc=>hw c (by simp[hc])) (fun q e c hc=>by cases e;exact h1 c hc)
theorem aaL {l:List Chg}(h:dP l)(hw:∀c∈l,chW c=false)(hl:l.length<=20):chF l=0:=by
 unfold chF
 rw[if_neg (by omega)]
 exact NY h hw (fun q e=>by cases e)
theorem DF {l:List Chg}(h:dP l){a b:Chg}(ha:a∈l)(hb:b∈l)(e:a.k=b.k):a=b:=by
 induction l with
 | nil=>simp at ha
 | cons x r ih=>
  obtain⟨h1,h2⟩:=List.pairwise_cons.1 h
  rcases List.mem_cons.1 ha with ha|ha
  ·rcases List.mem_cons.1 hb with hb|hb
   ·rw[ha,hb]
   ·have:=h1 b hb
    rw[<- ha,e,dw] at this;cases this
  ·rcases List.mem_cons.1 hb with hb|hb
   ·have:=h1 a ha
    rw[<- hb,<- e,dw] at this;cases this
   ·exact ih h2 ha hb
theorem afz {ls:List (List Chg)}(h:∀l∈ls,chF l=0)(hn:ls.length<=1000000):OkT (tab ls) ls.length:=by
 have key:∀(ls:List (List Chg)) (n:Int),1<=n->n+ls.length<=1000001->(∀l∈ls,chF l=0) →
   (∀x∈x9 n ls,OkV x/\n<=x.n/\x.n<n+ls.length)/\(x9 n ls).Pairwise (fun x y=>x.n<=y.n)/\(x9 n ls).Pairwise (fun x y=>¬(x.k=y.k/\x.n=y.n)):=by
  intro ls
  induction ls with
  | nil=>intro n _ _ _;exact⟨fun x h=>by simp[x9] at h,.nil,.nil⟩
  | cons l r ih=>
   intro n h1 h2 h3
   have h2':n+1+(r.length:Int)<=1000001:=by simp at h2;omega
   obtain⟨i1,i2,i3⟩:=ih (n+1) (by omega) h2' (fun m hm=>h3 m (by simp[hm]))
   have hl:=h3 l (by simp)
   have hw:=(fU hl).2
   have hr:=dV hl
   rw[x9]
   refine⟨fun x hx=>?_,?_,?_⟩
   ·rcases List.mem_append.1 hx with hx|hx
    ·obtain⟨c,hc,rfl⟩:=List.mem_map.1 hx
     obtain⟨a1,a2,a3,_⟩:=iJ (hw c hc)
     simp at h2
     exact⟨⟨a1,a2,a3,h1,by show n<=1000000;omega⟩,Int.le_refl _,by show n<n+((l :: r).length:Int);simp;omega⟩
    ·obtain⟨b1,b2,b3⟩:=i1 x hx
     simp
     exact⟨b1,by omega,by omega⟩
   ·refine List.pairwise_append.2 ⟨?_,i2,fun x hx y hy=>?_⟩
    ·refine List.pairwise_map.2 (List.Pairwise.imp (fun _=>Int.le_refl _) hr)
    ·obtain⟨c,hc,rfl⟩:=List.mem_map.1 hx
     have:=(i1 y hy).2.1
     show n<=y.n
     omega
   ·refine List.pairwise_append.2 ⟨?_,i3,fun x hx y hy=>?_⟩
    ·refine List.pairwise_map.2 (List.Pairwise.imp (fun {a b} hab e=>?_) hr)
     have e1:a.k=b.k:=e.1
     rw[e1,dw] at hab;cases hab
    ·obtain⟨c,hc,rfl⟩:=List.mem_map.1 hx
     have:=(i1 y hy).2.1
     rintro ⟨_,e⟩
     have e:n=y.n:=e
     omega
 obtain⟨k1,k2,k3⟩:=key ls 1 (by omega) (by omega) h
 exact⟨fun x hx=>⟨(k1 x hx).1,by have:=(k1 x hx).2.2;omega⟩,k2,k3,by omega,by omega⟩
def bP (own:List Chg)(k:ByteArray):Option Chg:=own.find? (fun c=>decide (c.k=k))
theorem bZ {own:List Chg}{k:ByteArray}{c:Chg}(h:bP own k=some c):c∈own/\c.k=k:=by
 refine⟨List.mem_of_find?_eq_some h,?_⟩
 have:=List.find?_some h
 simpa using this
theorem iV {own:List Chg}{k:ByteArray}:bP own k=none ↔ ∀c∈own,c.k≠k:=by
 unfold bP
 rw[List.find?_eq_none]
 constructor
 ·intro h c hc;simpa using h c hc
 ·intro h c hc;simpa using h c hc
theorem xG {own:List Chg}(hr:dP own){c:Chg}(hc:c∈own):bP own c.k=some c:=by
 cases e:bP own c.k with
 | none=>exact absurd rfl (iV.1 e c hc)
 | some d=>
  obtain⟨h1,h2⟩:=bZ e
  rw[DF hr h1 hc h2]
def aT (vs:List Ver)(sees:Int)(own:List Chg)(k:ByteArray):Option ByteArray:=match bP own k with
 | some c=>if c.g=true then none else some c.v
 | none=>bG vs k sees
def fJ (vs:List Ver)(sees:Int)(own:List Chg)(lo hi:ByteArray):List Pr:=
 (own.filter (fun c => !c.g&&btw lo hi c.k)).foldl (fun r c=>qy r (c.k,c.v)) ((jd vs lo hi sees).filter (fun p=>(bP own p.1).isNone))
theorem Ll:∀(m:List Chg) (r:List Pr),rises r->(∀x∈m,∀q∈r,q.1≠x.k)->m.Pairwise (fun x y=>x.k≠y.k) →
  rises (m.foldl (fun r x=>qy r (x.k,x.v)) r) /\ ∀p,p∈m.foldl (fun r x=>qy r (x.k,x.v)) r↔p∈r \/ ∃x∈m,p=(x.k,x.v)
 | [],r,h,_,_=>⟨h,fun p=>by simp⟩
 | x :: m,r,h,hn,hp=>by
  obtain⟨h1,h2⟩:=List.pairwise_cons.1 hp
  obtain⟨i1,i2⟩:=Ll m (qy r (x.k,x.v)) (yF h (hn x (by simp))) (fun y hy q hq=>by
   rcases qI.1 hq with rfl|hq
   ·exact h1 y hy
   ·exact hn y (by simp[hy]) q hq) h2
  refine⟨i1,fun p=>?_⟩
  rw[List.foldl_cons,i2 p,qI]
  constructor
  ·rintro ((h|h)|⟨y,hy,h⟩)
   ·exact .inr ⟨x,by simp,h⟩
   ·exact .inl h
   ·exact .inr ⟨y,by simp[hy],h⟩
  ·rintro (h|⟨y,hy,h⟩)
   ·exact .inl (.inr h)
   ·rcases List.mem_cons.1 hy with rfl|hy
    ·exact .inl (.inl h)
    ·exact .inr ⟨y,hy,h⟩
theorem yX {vs:List Ver}{top:Int}(hT:OkT vs top){own:List Chg}(hr:dP own)(sees:Int)(lo hi:ByteArray):rises (fJ vs sees own lo hi) /\ ∀p,p∈fJ vs sees own lo hi↔btw lo hi p.1=true/\aT vs sees own p.1=some p.2:=by
 obtain⟨v1,v2⟩:=xM hT lo hi sees
 have hp:(own.filter (fun c => !c.g&&btw lo hi c.k)).Pairwise (fun x y=>x.k≠y.k):=(hr.filter _).imp (fun h=>Qk h)
 obtain⟨h1,h2⟩:=Ll (own.filter (fun c => !c.g&&btw lo hi c.k)) ((jd vs lo hi sees).filter (fun p=>(bP own p.1).isNone)) (v1.filter _) (fun x hx q hq e=>by
  have hq2:=(List.mem_filter.1 hq).2
  rw[Option.isNone_iff_eq_none] at hq2
  exact iV.1 hq2 x (AX hx) e.symm) hp
 refine⟨h1,fun p=>?_⟩
 rw[fJ,h2 p]
 constructor
 ·rintro (h|⟨c,hc,rfl⟩)
  ·obtain⟨a1,a2⟩:=List.mem_filter.1 h
   rw[Option.isNone_iff_eq_none] at a2
   obtain⟨b1,b2⟩:=(v2 p).1 a1
   exact⟨b1,by rw[aT,a2];exact b2⟩
  ·obtain⟨a1,a2⟩:=List.mem_filter.1 hc
   simp only [Bool.and_eq_true,Bool.not_eq_true'] at a2
   refine⟨a2.2,?_⟩
   show aT vs sees own c.k=some c.v
   rw[aT,xG hr a1]
   simp[a2.1]
 ·rintro ⟨h3,h4⟩
  cases e:bP own p.1 with
  | none=>
   rw[aT,e] at h4
   exact .inl (List.mem_filter.2 ⟨(v2 p).2 ⟨h3,h4⟩,by rw[e];rfl⟩)
  | some c=>
   obtain⟨e1,e2⟩:=bZ e
   rw[aT,e] at h4
   by_cases hg:c.g=true
   ·simp[hg] at h4
   ·simp[hg] at h4
    refine .inr ⟨c,List.mem_filter.2 ⟨e1,?_⟩,?_⟩
    ·simp[hg,e2,h3]
    ·rw[h4,e2]
def bI:List Chg->Chg->List Chg
 | [],c=>[c]
 | x :: r,c=>if c.k=x.k then c :: r else if bl c.k x.k=true then c :: x :: r else x :: bI r c
theorem gQ:∀{l:List Chg} {c x:Chg},dP l->(x∈bI l c↔x=c \/ (x∈l/\x.k≠c.k))
 | [],c,x,_=>by simp[bI]
 | y :: r,c,x,h=>by
  obtain⟨h1,h2⟩:=List.pairwise_cons.1 h
  rw[bI]
  by_cases e:c.k=y.k
  ·rw[if_pos e,List.mem_cons,List.mem_cons]
   constructor
   ·rintro (g|g)
    ·exact .inl g
    ·exact .inr ⟨.inr g,fun e'=>by have:=h1 x g;rw[<- e,<- e',dw] at this;cases this⟩
   ·rintro (g|⟨g|g,ne⟩)
    ·exact .inl g
    ·rw[g] at ne;exact absurd e.symm ne
    ·exact .inr g
  ·rw[if_neg e]
   by_cases b:bl c.k y.k=true
   ·rw[if_pos b,List.mem_cons]
    constructor
    ·rintro (g|g)
     ·exact .inl g
     ·refine .inr ⟨g,fun e'=>?_⟩
      rcases List.mem_cons.1 g with rfl|g
      ·exact e e'.symm
      ·have:=dA b (h1 x g);rw[e',dw] at this;cases this
    ·rintro (g|⟨g,_⟩)
     ·exact .inl g
     ·exact .inr g
   ·rw[if_neg b,List.mem_cons,gQ h2,List.mem_cons]
    constructor
    ·rintro (g|g|⟨g,ne⟩)
     ·exact .inr ⟨.inl g,fun e'=>e (by rw[<- e',g])⟩
     ·exact .inl g
     ·exact .inr ⟨.inr g,ne⟩
    ·rintro (g|⟨g|g,ne⟩)
     ·exact .inr (.inl g)
     ·exact .inl g
     ·exact .inr (.inr ⟨g,ne⟩)
theorem iZ:∀{l:List Chg} {c:Chg},dP l->dP (bI l c)
 | [],c,_=>List.pairwise_singleton _ _
 | y :: r,c,h=>by
  obtain⟨h1,h2⟩:=List.pairwise_cons.1 h
  rw[bI]
  by_cases e:c.k=y.k
  ·rw[if_pos e]
   exact List.pairwise_cons.2 ⟨fun x hx=>by rw[e];exact h1 x hx,h2⟩
  ·rw[if_neg e]
   by_cases b:bl c.k y.k=true
   ·rw[if_pos b]
    refine List.pairwise_cons.2 ⟨fun x hx=>?_,h⟩
    rcases List.mem_cons.1 hx with rfl|hx
    ·exact b
    ·exact dA b (h1 x hx)
   ·rw[if_neg b]
    have b':bl c.k y.k=false:=by simpa using b
    refine List.pairwise_cons.2 ⟨fun x hx=>?_,iZ h2⟩
    rcases (gQ h2).1 hx with rfl|⟨hx,_⟩
    ·cases e':bl y.k x.k
     ·exact absurd (qj e' b') (fun g=>e g.symm)
     ·rfl
    ·exact h1 x hx
theorem PD:∀(l:List Chg) (c:Chg),(bI l c).length<=l.length+1
 | [],_=>Nat.le_refl _
 | y :: r,c=>by
  have:=PD r c
  rw[bI]
  split
  ·simp
  ·split
   ·simp
   ·simp;omega
theorem PV {l:List Chg}(h:dP l)(c:Chg)(k:ByteArray):bP (bI l c) k=if k=c.k then some c else bP l k:=by
 by_cases e:k=c.k
 ·rw[if_pos e,e]
  exact xG (iZ h) ((gQ h).2 (.inl rfl))
 ·rw[if_neg e]
  cases e2:bP l k with
  | none=>
   refine iV.2 (fun x hx=>?_)
   rcases (gQ h).1 hx with rfl|⟨hx,_⟩
   ·exact fun g=>e g.symm
   ·exact iV.1 e2 x hx
  | some d=>
   obtain⟨d1,d2⟩:=bZ e2
   rw[<- d2]
   exact xG (iZ h) ((gQ h).2 (.inr ⟨d1,by rw[d2];exact e⟩))
def opI (d:Dk)(i:Int):Option Ox:=d.op.find? (fun o=>decide (o.id=i))
def bM (d:Dk)(o':Ox):Dk:={ d with op:=d.op.map (fun o=>if o.id=o'.id then o' else o) }
def bT (d:Dk)(i:Int):Dk:={ d with op:=d.op.filter (fun o => !decide (o.id=i)) }
structure OkO (d:Dk)(o:Ox):Prop where
 i1:1<=o.id
 i2:o.id<=d.ids
 s0:0<=o.sees
 s1:o.sees<=d.last
 a0:0<=o.asked
 a1:o.asked<=100
 own:chF o.own=0
 asks:(o.keys.length:Int)+o.spans.length=o.asked
 keys:∀k∈o.keys,1<=k.size/\k.size<=24
structure OkD (d:Dk):Prop where
 lg:OkL d.lg
 tb:OkT d.vs d.top
 tl:d.top<=d.last
 last:d.last=d.lg.ls.length
 each:∀l∈d.lg.ls,0<l.length
 i0:0<=d.ids
 op:∀o∈d.op,OkO d o
 ids:d.op.Pairwise (fun a b=>a.id<b.id)
 few:d.op.length<=8
 len:d.vs.length<=wtL d.lg.ls
def wtO (l:List Ox):Nat:=(l.map fun o=>o.own.length).sum
def wt (d:Dk):Nat:=wtL d.lg.ls+wtO d.op
def bgF (d:Dk):Int:=if 8<=d.op.length then 3 else if d.lg.down=true then 8 else 0
def bgN (d:Dk):Int:=if bgF d=0 then d.ids+1 else 0
def bgD (d:Dk):Dk:=if bgF d=0 then { d with ids:=d.ids+1,op:=d.op ++ [⟨d.ids+1,d.last,0,[],[],[]⟩] } else d
def dN (o:Ox)(k:ByteArray):Ox:={ o with asked:=o.asked+1,keys:=o.keys ++ [k] }
def dgF (d:Dk)(i:Int)(k:ByteArray):Int:=match opI d i with
 | none=>4
 | some o=>if shF k ByteArray.empty=0 then (if 100<=o.asked then 3 else if (aT d.vs o.sees o.own k).isSome=true then 0 else 4) else 2
def dgS (d:Dk)(i:Int)(k:ByteArray):ByteArray:=match opI d i with
 | none=>ByteArray.empty
 | some o=>if shF k ByteArray.empty=0 then (if 100<=o.asked then ByteArray.empty else (aT d.vs o.sees o.own k).getD ByteArray.empty) else ByteArray.empty
def dgD (d:Dk)(i:Int)(k:ByteArray):Dk:=match opI d i with
 | none=>d
 | some o=>if shF k ByteArray.empty=0 then (if 100<=o.asked then d else bM d (dN o k)) else d
def iL (o:Ox)(lo hi:ByteArray):Ox:={ o with asked:=o.asked+1,spans:=o.spans ++ [(lo,hi)] }
def drF (d:Dk)(i:Int):Int:=match opI d i with
 | none=>4
 | some o=>if 100<=o.asked then 3 else 0
def drS (d:Dk)(i:Int)(lo hi:ByteArray):List Pr:=match opI d i with
 | none=>[]
 | some o=>if 100<=o.asked then [] else fJ d.vs o.sees o.own lo hi
def drD (d:Dk)(i:Int)(lo hi:ByteArray):Dk:=match opI d i with
 | none=>d
 | some o=>if 100<=o.asked then d else bM d (iL o lo hi)
def dcF (d:Dk)(i:Int)(c:Chg):Int:=match opI d i with
 | none=>4
 | some o=>if shF c.k c.v=0 then (if 20<(bI o.own c).length then 3 else 0) else 2
def dcD (d:Dk)(i:Int)(c:Chg):Dk:=match opI d i with
 | none=>d
 | some o=>if shF c.k c.v=0 then (if 20<(bI o.own c).length then d else bM d { o with own:=bI o.own c }) else d
def snc (vs:List Ver)(k:ByteArray)(a:Int):Bool:=vs.any (fun x=>decide (x.k=k)&&decide (a<x.n))
def clash (vs:List Ver)(o:Ox):Bool:=o.keys.any (fun k=>snc vs k o.sees) || o.own.any (fun c=>snc vs c.k o.sees) || o.spans.any (fun s=>iO vs s.1 s.2 o.sees)
def cmF (d:Dk)(i:Int):Int:=match opI d i with
 | none=>4
 | some o=>if clash d.vs o=true then 6 else if o.own=[] then 0 else apF d.lg o.own
def cmN (d:Dk)(i:Int):Int:=match opI d i with
 | none=>0
 | some o=>if clash d.vs o=true then 0 else if o.own=[] then o.sees else if apF d.lg o.own=0 then d.last+1 else 0
def aae (d:Dk)(own:List Chg):Dk:={ d with lg:=apG d.lg own,vs:=d.vs++own.map (fF (d.last+1)),top:=d.last+1,last:=d.last+1 }
def cmD (d:Dk)(i:Int):Dk:=match opI d i with
 | none=>d
 | some o=>if clash d.vs o=true then bT d i else if o.own=[] then bT d i else if apF d.lg o.own=0 then aae (bT d i) o.own else { bT d i with lg:=apG d.lg o.own }
def abF (d:Dk)(i:Int):Int:=if (opI d i).isSome=true then 0 else 4
def flF (d:Dk):Int:=syF d.lg
def flD (d:Dk):Dk:={ d with lg:=syG d.lg }
def fdD (d:Dk)(n:Int):Dk:={ d with lg:=faG d.lg n }
def cdD (d:Dk)(n:Int):Dk:=let g:=crG d.lg n;⟨g,tab g.ls,g.ls.length,g.ls.length,d.ids,[]⟩
def least (a:Int)(l:List Ox):Int:=l.foldl (fun m o=>if o.sees<m then o.sees else m) a
def JL (l:List Ver)(a:Int)(x:Ver):Bool := !x.g&&decide (see l x.k a=some x)
def iK (d:Dk):List Pr:=(d.vs.filter (JL d.vs d.last)).foldl (fun r x=>qy r (x.k,x.v)) []
def sfN (d:Dk):Nat:=(dG d.lg.safe d.lg.ls).length
theorem aS {d:Dk}{i:Int}{o:Ox}(h:opI d i=some o):o∈d.op/\o.id=i:=by
 refine⟨List.mem_of_find?_eq_some h,?_⟩
 have:=List.find?_some h
 simpa using this
theorem OJ {d:Dk}{i:Int}:opI d i=none ↔ ∀o∈d.op,o.id≠i:=by
 unfold opI
 rw[List.find?_eq_none]
 constructor
 ·intro h c hc;simpa using h c hc
 ·intro h c hc;simpa using h c hc
theorem DJ {d:Dk}(h:d.op.Pairwise (fun a b=>a.id<b.id)){a b:Ox}(ha:a∈d.op)(hb:b∈d.op)(e:a.id=b.id):a=b:=by
 generalize d.op=l at h ha hb
 induction l with
 | nil=>simp at ha
 | cons x r ih=>
  obtain⟨h1,h2⟩:=List.pairwise_cons.1 h
  rcases List.mem_cons.1 ha with ha|ha
  ·rcases List.mem_cons.1 hb with hb|hb
   ·rw[ha,hb]
   ·have:=h1 b hb
    rw[<- ha] at this;omega
  ·rcases List.mem_cons.1 hb with hb|hb
   ·have:=h1 a ha
    rw[<- hb] at this;omega
   ·exact ih h2 ha hb
theorem aai {d:Dk}(h:d.op.Pairwise (fun a b=>a.id<b.id)){o:Ox}(ho:o∈d.op):opI d o.id=some o:=by
 cases e:opI d o.id with
 | none=>exact absurd rfl (OJ.1 e o ho)
 | some x=>
  obtain⟨h1,h2⟩:=aS e
  rw[DJ h h1 ho h2]
theorem OkO.mono {d d':Dk}{o:Ox}(h:OkO d o)(hi:d.ids<=d'.ids)(hl:d.last<=d'.last):OkO d' o:=
 ⟨h.i1,by have:=h.i2;omega,h.s0,by have:=h.s1;omega,h.a0,h.a1,h.own,h.asks,h.keys⟩
theorem OkD.new {room:Int}(h0:0<=room)(h1:room<=100000):OkD (dk0 room):=
 ⟨OkL.new h0 h1,OkT.nil,Int.le_refl _,rfl,fun l h=>by simp[dk0,lg0] at h,Int.le_refl _,fun o h=>by simp[dk0] at h,.nil,by simp[dk0],by simp[dk0]⟩
theorem OkD.bg {d:Dk}(h:OkD d):OkD (bgD d):=by
 unfold bgD
 by_cases c:bgF d=0
 ·rw[if_pos c]
  have hf:¬8<=d.op.length:=fun g=>by rw[bgF,if_pos g] at c;cases c
  have hi:=h.i0
  refine⟨h.lg,h.tb,h.tl,h.last,h.each,by show 0<=d.ids+1;omega,fun o ho=>?_,?_,by show (d.op ++ [_]).length<=8;simp;omega,h.len⟩
  ·rcases List.mem_append.1 ho with ho|ho
   ·exact (h.op o ho).mono (by show d.ids<=d.ids+1;omega) (Int.le_refl _)
   ·rw[List.mem_singleton.1 ho]
    exact⟨by show 1<=d.ids+1;omega,Int.le_refl _,by show 0<=d.last;rw[h.last];omega,Int.le_refl _,Int.le_refl _,by show (0:Int)<=100;decide,rfl,rfl,fun k hk=>by simp at hk⟩
  ·refine List.pairwise_append.2 ⟨h.ids,List.pairwise_singleton _ _,fun a ha b hb=>?_⟩
   rw[List.mem_singleton.1 hb]
   have:=(h.op a ha).i2
   show a.id<d.ids+1
   omega
 ·rw[if_neg c];exact h
theorem OkD.set {d:Dk}(h:OkD d){o':Ox}(k:OkO d o'):OkD (bM d o'):=by
 refine⟨h.lg,h.tb,h.tl,h.last,h.each,h.i0,fun x hx=>?_,?_,by show (d.op.map _).length<=8;rw[List.length_map];exact h.few,h.len⟩
 ·obtain⟨y,hy,rfl⟩:=List.mem_map.1 hx
  by_cases c:y.id=o'.id
  ·rw[if_pos c];exact k.mono (Int.le_refl _) (Int.le_refl _)
  ·rw[if_neg c];exact (h.op y hy).mono (Int.le_refl _) (Int.le_refl _)
 ·refine List.pairwise_map.2 (h.ids.imp (fun {a b} hab=>?_))
  by_cases c1:a.id=o'.id
  ·rw[if_pos c1]
   by_cases c2:b.id=o'.id
   ·omega
   ·rw[if_neg c2];omega
  ·rw[if_neg c1]
   by_cases c2:b.id=o'.id
   ·rw[if_pos c2];omega
   ·rw[if_neg c2];omega
theorem OkD.del {d:Dk}(h:OkD d)(i:Int):OkD (bT d i):=
 ⟨h.lg,h.tb,h.tl,h.last,h.each,h.i0,fun x hx=>(h.op x (AX hx)).mono (Int.le_refl _) (Int.le_refl _),h.ids.filter _,Nat.le_trans (List.length_filter_le _ _) h.few,h.len⟩
theorem RN {k v:ByteArray}(h:shF k v=0):1<=k.size/\k.size<=24/\v.size<=12:=by
 unfold shF at h
 by_cases c:k.size<1 \/ 24<k.size \/ 12<v.size
 ·rw[if_pos c] at h;cases h
 ·omega
theorem OkD.dg {d:Dk}(h:OkD d)(i:Int)(k:ByteArray):OkD (dgD d i k):=by
 unfold dgD
 cases e:opI d i with
 | none=>exact h
 | some o=>
  obtain⟨h1,h2⟩:=aS e
  have ho:=h.op o h1
  simp only
  by_cases c:shF k ByteArray.empty=0
  ·rw[if_pos c]
   by_cases c2:100<=o.asked
   ·rw[if_pos c2];exact h
   ·rw[if_neg c2]
    have hk:=RN c
    refine h.set ⟨ho.i1,ho.i2,ho.s0,ho.s1,by show 0<=o.asked+1;have:=ho.a0;omega,by show o.asked+1<=100;omega,ho.own,?_,fun x hx=>?_⟩
    ·show ((o.keys ++ [k]).length:Int)+o.spans.length=o.asked+1
     have:=ho.asks
     rw[List.length_append];simp;omega
    ·rcases List.mem_append.1 hx with hx|hx
     ·exact ho.keys x hx
     ·rw[List.mem_singleton.1 hx];exact⟨hk.1,hk.2.1⟩
  ·rw[if_neg c];exact h
theorem OkD.dr {d:Dk}(h:OkD d)(i:Int)(lo hi:ByteArray):OkD (drD d i lo hi):=by
 unfold drD
 cases e:opI d i with
 | none=>exact h
 | some o=>
  obtain⟨h1,h2⟩:=aS e
  have ho:=h.op o h1
  simp only
  by_cases c2:100<=o.asked
  ·rw[if_pos c2];exact h
  ·rw[if_neg c2]
   refine h.set ⟨ho.i1,ho.i2,ho.s0,ho.s1,by show 0<=o.asked+1;have:=ho.a0;omega,by show o.asked+1<=100;omega,ho.own,?_,ho.keys⟩
   show (o.keys.length:Int)+((o.spans ++ [(lo,hi)]).length:Int)=o.asked+1
   have:=ho.asks
   rw[List.length_append];simp;omega
def okc (c:Chg):Prop:=c.g=true->c.v.size=0
theorem agm {c:Chg}(h:shF c.k c.v=0)(g:okc c):chW c=false:=by
 unfold chW
 rw[h]
 cases e:c.g
 ·rfl
 ·simp[g e]
theorem OkD.dc {d:Dk}(h:OkD d)(i:Int){c:Chg}(g:okc c):OkD (dcD d i c):=by
 unfold dcD
 cases e:opI d i with
 | none=>exact h
 | some o=>
  obtain⟨h1,h2⟩:=aS e
  have ho:=h.op o h1
  simp only
  by_cases cs:shF c.k c.v=0
  ·rw[if_pos cs]
   by_cases c2:20<(bI o.own c).length
   ·rw[if_pos c2];exact h
   ·rw[if_neg c2]
    have hr:=dV ho.own
    refine h.set ⟨ho.i1,ho.i2,ho.s0,ho.s1,ho.a0,ho.a1,?_,ho.asks,ho.keys⟩
    refine aaL (iZ hr) (fun x hx=>?_) (by show (bI o.own c).length<=20;omega)
    rcases (gQ hr).1 hx with rfl|⟨hx,_⟩
    ·exact agm cs g
    ·exact (fU ho.own).2 x hx
  ·rw[if_neg cs];exact h
theorem Vm (g:Lg)(l:List Chg):(apG g l).ls=if apF g l=0 then g.ls ++ [l] else g.ls:=by
 unfold apF apG
 by_cases h1:chF l=0
 ·rw[if_pos h1,if_pos h1]
  by_cases h2:g.room<g.by.length+2+(bH l).length
  ·rw[if_pos h2,if_pos h2];rfl
  ·rw[if_neg h2,if_neg h2]
   by_cases h3:g.down=true
   ·rw[if_pos h3,if_pos h3];rfl
   ·rw[if_neg h3,if_neg h3]
    by_cases h4:g.left=0
    ·rw[if_pos h4,if_pos h4];rfl
    ·rw[if_neg h4,if_neg h4];rfl
 ·rw[if_neg h1,if_neg h1,if_neg h1]
theorem agC (g:Lg):(syG g).ls=g.ls:=by
 unfold syG
 split
 ·rfl
 ·split <;> rfl
theorem OkT.add {l:List Ver}{s:Int}(h:OkT l s){n:Int}(h1:s<n)(h2:n<=1000000){own:List Chg}(ho:chF own=0):OkT (l++own.map (fF n)) n:=by
 have h0:=h.t0
 have hw:=(fU ho).2
 refine⟨fun x hx=>?_,?_,?_,by omega,h2⟩
 ·rcases List.mem_append.1 hx with hx|hx
  ·exact⟨(h.each x hx).1,by have:=(h.each x hx).2;omega⟩
  ·obtain⟨c,hc,rfl⟩:=List.mem_map.1 hx
   obtain⟨a1,a2,a3,_⟩:=iJ (hw c hc)
   exact⟨⟨a1,a2,a3,by show 1<=n;omega,h2⟩,Int.le_refl _⟩
 ·refine List.pairwise_append.2 ⟨h.rise,List.pairwise_map.2 (List.Pairwise.imp (fun _=>Int.le_refl _) (dV ho)),fun x hx y hy=>?_⟩
  obtain⟨c,hc,rfl⟩:=List.mem_map.1 hy
  have:=(h.each x hx).2
  show x.n<=n
  omega
 ·refine List.pairwise_append.2 ⟨h.once,List.pairwise_map.2 (List.Pairwise.imp (fun {a b} hab e=>?_) (dV ho)),fun x hx y hy=>?_⟩
  ·have e1:a.k=b.k:=e.1
   rw[e1,dw] at hab;cases hab
  ·obtain⟨c,hc,rfl⟩:=List.mem_map.1 hy
   have:=(h.each x hx).2
   rintro ⟨_,e⟩
   have e:x.n=n:=e
   omega
theorem OkD.cm {d:Dk}(h:OkD d)(i:Int):OkD (cmD d i):=by
 unfold cmD
 cases e:opI d i with
 | none=>exact h
 | some o=>
  obtain⟨h1,h2⟩:=aS e
  have ho:=h.op o h1
  have hd:=h.del i
  simp only
  by_cases c:clash d.vs o=true
  ·rw[if_pos c];exact hd
  ·rw[if_neg c]
   by_cases c2:o.own=[]
   ·rw[if_pos c2];exact hd
   ·rw[if_neg c2]
    have hls:=Vm d.lg o.own
    have hfw:=(h.lg.ap o.own).few.1
    by_cases c3:apF d.lg o.own=0
    ·rw[if_pos c3]
     rw[if_pos c3] at hls
     have hl:=h.last
     have hn:d.last+1<=1000000:=by
      rw[hls,List.length_append] at hfw
      simp at hfw;omega
     refine⟨h.lg.ap _,OkT.add h.tb (by have:=h.tl;omega) hn ho.own,Int.le_refl _,?_,fun l hm=>?_,h.i0,fun x hx=>(h.op x (AX hx)).mono (Int.le_refl _) (by show d.last<=d.last+1;omega),h.ids.filter _,Nat.le_trans (List.length_filter_le _ _) h.few,?_⟩
     ·show d.last+1=((apG d.lg o.own).ls.length:Int)
      rw[hls,List.length_append];simp;omega
     ·have hm:l∈(apG d.lg o.own).ls:=hm
      rw[hls] at hm
      rcases List.mem_append.1 hm with hm|hm
      ·exact h.each l hm
      ·rw[List.mem_singleton.1 hm];exact List.length_pos_iff.2 c2
     ·show (d.vs++o.own.map _).length<=wtL (apG d.lg o.own).ls
      rw[hls,LJ,List.length_append,List.length_map]
      have:=h.len;omega
    ·rw[if_neg c3]
     rw[if_neg c3] at hls
     refine⟨h.lg.ap _,h.tb,h.tl,?_,fun l hm=>?_,h.i0,fun x hx=>(h.op x (AX hx)).mono (Int.le_refl _) (Int.le_refl _),h.ids.filter _,Nat.le_trans (List.length_filter_le _ _) h.few,?_⟩
     ·show d.last=((apG d.lg o.own).ls.length:Int)
      rw[hls];exact h.last
     ·have hm:l∈(apG d.lg o.own).ls:=hm
      rw[hls] at hm
      exact h.each l hm
     ·show d.vs.length<=wtL (apG d.lg o.own).ls
      rw[hls];exact h.len
theorem OkD.cd {d:Dk}(h:OkD d)(n:Int):OkD (cdD d n):=by
 have hg:=h.lg.cr n
 have hfw:=hg.few.1
 obtain⟨k,h1,h2,_⟩:=iE (crN d.lg n) d.lg.ls
 refine⟨hg,afz hg.each (by omega),Int.le_refl _,rfl,fun l hl=>?_,h.i0,fun o ho=>by simp[cdD] at ho,.nil,by simp[cdD],by show (tab _).length<=_;rw[UG];exact Nat.le_refl _⟩
 have hl:l∈dG (crN d.lg n) d.lg.ls:=hl
 rw[h2] at hl
 exact h.each l (List.mem_of_mem_take hl)
def acy (bs:List UInt8)(i n:Nat):ByteArray:=mkB ((bs.drop i).take n)
def JQ (o:List Chg)(m:Nat)(r:List UInt8):Option (List Chg×List UInt8):=match yI m r with
 | some (l,t)=>some (o++l,t)
 | none=>none
theorem Vu (o:List Chg)(r:List UInt8):JQ o 0 r=some (o,r):=by simp[JQ,yI]
def ae3 (o:List Chg)(m:Nat):Option (Chg×List UInt8)->Option (List Chg×List UInt8)
 | some (c,s)=>JQ (o ++ [c]) m s
 | none=>none
theorem VL (o:List Chg)(m:Nat)(r:List UInt8):JQ o (m+1) r=ae3 o m (AY r):=by
 unfold ae3
 unfold JQ
 rw[yI]
 cases AY r with
 | none=>rfl
 | some cs=>
  obtain⟨c,s⟩:=cs
  show (match (match yI m s with|some (l,t)=>some (c :: l,t)|none=>none) with|some (l,t)=>some (o++l,t)|none=>none)=(match yI m s with|some (l,t)=>some (o ++ [c]++l,t)|none=>none)
  cases yI m s with
  | none=>rfl
  | some lt=>simp
def fin:Option (List Chg×List UInt8)->Option (List Chg)
 | some (l,[])=>if chF l=0 then some l else none
 | _=>none
theorem xP {l:List Chg}(h:chF l=0):(bH l).length<=1000:=by
 obtain⟨h1,h2⟩:=fU h
 have key:∀{m:List Chg},(∀c∈m,chW c=false)->(m.flatMap cZ).length<=m.length*40:=by
  intro m
  induction m with
  | nil=>intro _;simp
  | cons x r ih=>
   intro hm
   have h3:=ih (fun c hc=>hm c (by simp[hc]))
   have h4:(cZ x).length<=40:=by
    obtain⟨a1,a2,a3,_⟩:=iJ (hm x (by simp))
    have e1:x.k.data.toList.length=x.k.size:=rfl
    have e2:x.v.data.toList.length=x.v.size:=rfl
    unfold cZ
    by_cases g:x.g=true
    ·simp[g];omega
    ·simp[g];omega
   rw[List.flatMap_cons,List.length_append,List.length_cons];omega
 have:=key h2
 rw[bH,List.length_cons];omega
def Inc (t:List UInt8):Prop:=∃l k,chF l=0/\k<(fr l).length/\t=(fr l).take k
theorem abo:Inc []:=⟨[],0,rfl,by rw[fC];omega,rfl⟩
theorem Inc.take {t:List UInt8}(h:Inc t)(n:Nat):Inc (t.take n):=by
 obtain⟨l,k,h1,h2,rfl⟩:=h
 exact⟨l,min n k,h1,by omega,by rw[List.take_take]⟩
theorem OkL.inc {g:Lg}(ok:OkL g):Inc g.tl:=by
 rcases ok.tail with h|⟨_,l,h1,h2⟩
 ·rw[h];exact abo
 ·exact⟨l,_,h1,by rw[fC];omega,h2⟩
theorem TU:∀(n:Nat) (ls:List (List Chg))(t:List UInt8),(∀l∈ls,chF l=0)->Inc t -> ∃t',(frs ls++t).take n=frs (dG n ls)++t'/\Inc t'
 | n,[],t,_,h=>⟨t.take n,by simp[frs,dG],h.take n⟩
 | n,l :: r,t,hl,h=>by
  rw[dG]
  by_cases c:(fr l).length<=n
  ·rw[if_pos c]
   obtain⟨t',e,h'⟩:=TU (n - (fr l).length) r t (fun m hm=>hl m (by simp[hm])) h
   exact⟨t',by rw[dD,dD,List.append_assoc,List.take_append,List.take_of_length_le c,e,List.append_assoc],h'⟩
  ·rw[if_neg c]
   exact⟨(fr l).take n,by rw[dD,List.append_assoc,List.take_append_of_le_length (by omega)];simp[frs],l,n,hl l (by simp),by omega,rfl⟩
theorem U1 {l:List Chg}(h:chF l=0):(fr l)[0]? = some (UInt8.ofNat ((bH l).length / 256))/\(fr l)[1]? = some (UInt8.ofNat ((bH l).length % 256))/\(UInt8.ofNat ((bH l).length / 256)).toNat*256+(UInt8.ofNat ((bH l).length % 256)).toNat=(bH l).length:=by
 have:=xP h
 refine⟨rfl,rfl,?_⟩
 rw[UInt8.toNat_ofNat',UInt8.toNat_ofNat']
 omega
theorem Inc.short {t:List UInt8}(h:Inc t):t.length<2 \/ ∃a b:UInt8,t[0]? = some a/\t[1]? = some b/\t.length<2+a.toNat*256+b.toNat/\t.length<=2000:=by
 obtain⟨l,k,h1,h2,rfl⟩:=h
 obtain⟨e0,e1,e2⟩:=U1 h1
 have hs:=xP h1
 rw[List.length_take]
 rw[fC] at h2 ⊢
 by_cases c:k<2
 ·left;omega
 ·right
  exact⟨_,_,by rw[List.getElem?_take,if_pos (by omega),e0],by rw[List.getElem?_take,if_pos (by omega),e1],by omega,by omega⟩
theorem Lc {n:Nat}{ls:List (List Chg)}(h:(frs ls).length<=n):dG n ls=ls:=by
 have:=Yv (n:=n) (ls:=ls) (k:=ls.length) (Nat.le_refl _) (by rw[List.take_length];exact h) (.inl rfl)
 rwa [List.take_length] at this
abbrev Pc (b:List UInt8):={ x:Nat×List Chg // chF x.2=0 /\ ∃a c,b=a++(fr x.2++c)/\a.length=x.1 }
def pqs {b:List UInt8}(pre:List (Pc b)):List (List Chg):=pre.map fun x=>x.1.2
theorem LQ {b:List UInt8}(p q:List (Pc b)):pqs (p++q)=pqs p++pqs q:=by simp[pqs]
theorem agf {ls:List (List Chg)}(h:∀l∈ls,chF l=0):(frs ls).length<=ls.length*1002:=by
 induction ls with
 | nil=>simp[frs]
 | cons l r ih=>
  have h1:=ih (fun m hm=>h m (by simp[hm]))
  have h2:=xP (h l (by simp))
  rw[dD,List.length_append,fC,List.length_cons];omega
theorem agp {b:List UInt8}(pre:List (Pc b)):∀l∈pqs pre,chF l=0:=by
 intro l hl
 obtain⟨x,_,rfl⟩:=List.mem_map.1 hl
 exact x.2.1
theorem VT (n:Nat)(ls:List (List Chg))(l:List Chg):(dG n ls).length<=(dG n (ls ++ [l])).length:=by
 obtain⟨k,h1,h2,h3⟩:=iE n ls
 have h4:=Ey (n:=n) (ls:=ls ++ [l]) (k:=k) (by simp;omega) (by rw[List.take_append_of_le_length h1];exact h3)
 rw[h2,List.length_take];omega
theorem aaJ (g:Lg)(l:List Chg):(apG g l).safe=g.safe:=by
 unfold apG
 split
 ·split
  ·rfl
  ·split
   ·rfl
   ·split <;> rfl
 ·rfl
def TJ (vs:List Ver)(a:Int):List Pr:=(vs.filter (JL vs a)).foldl (fun r x=>qy r (x.k,x.v)) []
theorem rC (d:Dk):iK d=TJ d.vs d.last:=rfl
theorem abM (l:List Ox)(o:Ox):wtO (l ++ [o])=wtO l+o.own.length:=by simp[wtO]
theorem Rh (l:List Ox)(p:Ox->Bool):wtO (l.filter p)<=wtO l:=by
 induction l with
 | nil=>simp[wtO]
 | cons x r ih=>
  rw[List.filter_cons]
  simp only [wtO] at ih ⊢
  split
  ·simp only [List.map_cons,List.sum_cons];omega
  ·simp only [List.map_cons,List.sum_cons];omega
theorem ab2 {l:List Ox}(h:l.Pairwise (fun a b=>a.id<b.id)){o:Ox}(ho:o∈l):wtO (l.filter (fun x => !decide (x.id=o.id)))+o.own.length=wtO l:=by
 induction l with
 | nil=>simp at ho
 | cons x r ih=>
  obtain⟨h1,h2⟩:=List.pairwise_cons.1 h
  rw[List.filter_cons]
  rcases List.mem_cons.1 ho with rfl|ho
  ·have:r.filter (fun x => !decide (x.id=o.id))=r:=List.filter_eq_self.2 (fun y hy=>by have:=h1 y hy;simp;omega)
   simp only [decide_true,Bool.not_true,Bool.false_eq_true,if_false,this]
   simp[wtO];omega
  ·have:=h1 o ho
   rw[if_pos (by simp;omega)]
   have hi:=ih h2 ho
   simp only [wtO,List.map_cons,List.sum_cons] at hi ⊢
   omega
theorem Vf {l:List Ox}(h:l.Pairwise (fun a b=>a.id<b.id)){o o':Ox}(ho:o∈l)(e:o'.id=o.id):wtO (l.map (fun x=>if x.id=o'.id then o' else x))+o.own.length=wtO l+o'.own.length:=by
 induction l with
 | nil=>simp at ho
 | cons x r ih=>
  obtain⟨h1,h2⟩:=List.pairwise_cons.1 h
  rcases List.mem_cons.1 ho with rfl|ho
  ·have:r.map (fun x=>if x.id=o'.id then o' else x)=r:=by
    conv=>rhs;rw[<- List.map_id r]
    apply List.map_congr_left
    intro y hy
    have:=h1 y hy
    rw[if_neg (by omega)];rfl
   rw[List.map_cons,this,if_pos e.symm]
   simp[wtO];omega
  ·have:=h1 o ho
   have hi:=ih h2 ho
   rw[List.map_cons,if_neg (by omega)]
   simp only [wtO,List.map_cons,List.sum_cons] at hi ⊢
   omega
theorem Kz (d:Dk):wt (bgD d)=wt d/\(bgD d).ids<=d.ids+1/\(bgD d).lg=d.lg/\(bgD d).vs=d.vs:=by
 unfold bgD
 split
 ·refine⟨?_,Int.le_refl _,rfl,rfl⟩
  show wtL d.lg.ls+wtO (d.op ++ [_])=_
  rw[abM];simp[wt]
 ·exact⟨rfl,by omega,rfl,rfl⟩
theorem adD {d:Dk}(h:OkD d)(i:Int)(c:Chg):wt (dcD d i c)<=wt d+1/\(dcD d i c).ids=d.ids/\(dcD d i c).lg=d.lg/\(dcD d i c).vs=d.vs:=by
 unfold dcD
 cases e:opI d i with
 | none=>exact⟨by simp,rfl,rfl,rfl⟩
 | some o=>
  obtain⟨h1,h2⟩:=aS e
  simp only
  split
  ·split
   ·exact⟨by simp,rfl,rfl,rfl⟩
   ·refine⟨?_,rfl,rfl,rfl⟩
    have key:wtO (bM d { o with own:=bI o.own c }).op+o.own.length=wtO d.op+(bI o.own c).length:=Vf h.ids (o':={ o with own:=bI o.own c }) h1 rfl
    have hl:=PD o.own c
    show wtL d.lg.ls+wtO (bM d { o with own:=bI o.own c }).op<=wtL d.lg.ls+wtO d.op+1
    omega
  ·exact⟨by simp,rfl,rfl,rfl⟩
theorem P9 {d:Dk}(h:OkD d)(i:Int):((cmD d i).lg.ls=d.lg.ls/\(cmD d i).vs=d.vs/\(cmD d i).lg.safe=d.lg.safe/\wt (cmD d i)<=wt d/\(cmF d i=0->cmN d i<=d.last/\0<=cmN d i)) ∨
  (∃own,chF own=0/\(cmD d i).lg.ls=d.lg.ls ++ [own]/\(cmD d i).vs=d.vs++own.map (fF (d.last+1))/\(cmD d i).lg.safe=d.lg.safe/\wt (cmD d i)=wt d/\cmF d i=0/\cmN d i=d.last+1):=by
 have h0:(0:Int)<=d.last:=by rw[h.last];omega
 unfold cmD cmF cmN
 cases e:opI d i with
 | none=>exact .inl ⟨rfl,rfl,rfl,Nat.le_refl _,fun g=>by cases g⟩
 | some o=>
  obtain⟨h1,h2⟩:=aS e
  subst h2
  have ho:=h.op o h1
  have hdel:wtO (bT d o.id).op+o.own.length=wtO d.op:=ab2 h.ids h1
  have hls:=Vm d.lg o.own
  have hsf:=aaJ d.lg o.own
  have hle:wt (bT d o.id)<=wt d:=by
   show wtL d.lg.ls+wtO (bT d o.id).op<=wtL d.lg.ls+wtO d.op
   omega
  simp only
  by_cases c:clash d.vs o=true
  ·rw[if_pos c,if_pos c,if_pos c]
   exact .inl ⟨rfl,rfl,rfl,hle,fun g=>by cases g⟩
  ·rw[if_neg c,if_neg c,if_neg c]
   by_cases c2:o.own=[]
   ·rw[if_pos c2,if_pos c2,if_pos c2]
    exact .inl ⟨rfl,rfl,rfl,hle,fun _=>⟨ho.s1,ho.s0⟩⟩
   ·rw[if_neg c2,if_neg c2,if_neg c2]
    by_cases c3:apF d.lg o.own=0
    ·rw[if_pos c3,if_pos c3]
     rw[if_pos c3] at hls
     refine .inr ⟨o.own,ho.own,hls,rfl,hsf,?_,c3,rfl⟩
     show wtL (apG d.lg o.own).ls+wtO (bT d o.id).op=wtL d.lg.ls+wtO d.op
     rw[hls,LJ]
     omega
    ·rw[if_neg c3,if_neg c3]
     rw[if_neg c3] at hls
     refine .inl ⟨hls,rfl,hsf,?_,fun g=>absurd g c3⟩
     show wtL (apG d.lg o.own).ls+wtO (bT d o.id).op<=wtL d.lg.ls+wtO d.op
     rw[hls]
     omega
theorem aed (d:Dk)(i:Int):(cmD d i).ids=d.ids:=by
 unfold cmD
 cases opI d i with
 | none=>rfl
 | some o=>
  simp only
  split
  ·rfl
  ·split
   ·rfl
   ·split <;> rfl
theorem N9 (ls:List (List Chg))(k:Nat):wtL (ls.take k)<=wtL ls:=by
 conv=>rhs;rw[<- List.take_append_drop k ls]
 simp only [wtL,List.map_append,List.sum_append];omega
structure UpL (g:Lg):Prop where
 up:g.down=false
 nv:g.left = -1
 rm:g.room=100000
def ox0 (i s:Int):Ox:=⟨i,s,0,[],[],[]⟩
theorem acv (k:ByteArray):bl k (mkB (k.data.toList ++ [0]))=true:=by
 unfold bl
 rw[Lib.toList_data,Lib.toList_data,EK]
 generalize k.data.toList=l
 induction l with
 | nil=>rfl
 | cons x r ih=>simp[Op.bytesLess,ih]
theorem Om:∀(x l:List UInt8),Op.bytesLess x (l ++ [0])=true->Op.bytesLess x l=false->x=l
 | [],[],_,_=>rfl
 | [],a :: r,_,h=>by simp[Op.bytesLess] at h
 | y :: ys,[],h,_=>by
  simp[Op.bytesLess] at h
 | y :: ys,a :: r,h,g=>by
  simp only [List.cons_append,Op.bytesLess,Bool.or_eq_true,Bool.and_eq_true,decide_eq_true_eq,beq_iff_eq,Bool.or_eq_false_iff,Bool.and_eq_false_iff,decide_eq_false_iff_not,beq_eq_false_iff_ne] at h g
  rcases h with h|⟨rfl,h⟩
  ·exact absurd h g.1
  ·have:=g.2.resolve_left (fun q=>q rfl)
   rw[Om ys r h this]
def kz (k:ByteArray):ByteArray:=mkB (k.data.toList ++ [0])
theorem Q5 (k x:ByteArray):btw k (kz k) x=true↔x=k:=by
 constructor
 ·intro h
  simp only [btw,Bool.and_eq_true,Bool.not_eq_true'] at h
  have h1:=h.1
  have h2:=h.2
  unfold bl at h1 h2
  rw[Lib.toList_data,Lib.toList_data] at h1
  rw[Lib.toList_data,Lib.toList_data,kz,EK] at h2
  have:=Om _ _ h2 h1
  exact toL.1 (by rw[Lib.toList_data,Lib.toList_data];exact this)
 ·rintro rfl
  simp only [btw,dw,Bool.not_false,Bool.true_and]
  exact acv x
theorem QZ (k:ByteArray):k++({ data:=#[0] }:ByteArray)=kz k:=by
 apply toL.1
 rw[Lib.toList_data,Lib.toList_data,kz,EK]
 simp
theorem BR (vs:List Ver)(k:ByteArray)(a:Int):iO vs k (kz k) a=snc vs k a:=by
 unfold iO snc
 congr 1
 funext x
 congr 1
 have:=Q5 k x.k
 by_cases c:x.k=k
 ·rw[decide_eq_true c,this.2 c]
 ·rw[decide_eq_false c]
  cases e:btw k (kz k) x.k
  ·rfl
  ·exact absurd (this.1 e) c
theorem abR {l m:List Ver}{k:ByteArray}{a:Int}(h:∀x∈m,a<x.n):see (l++m) k a=see l k a:=by
 unfold see
 rw[List.filter_append,show m.filter (hit k a)=[] from List.filter_eq_nil_iff.2 (fun x hx=>by have:=h x hx;simp[hit];intro _;omega),List.append_nil]
theorem OT {l m:List Ver}{k:ByteArray}{a:Int}(h:∀x∈m,a<x.n):bG (l++m) k a=bG l k a:=by
 unfold bG;rw[abR h]
theorem qE {vs:List Ver}{top:Int}(hT:OkT vs top)(a:Int):rises (TJ vs a) /\ ∀p,p∈TJ vs a↔bG vs p.1 a=some p.2:=by
 have hk:(vs.filter (JL vs a)).Pairwise (fun x y=>x.k≠y.k):=by
  refine (hT.once.filter (JL vs a)).imp_of_mem (fun {x y} hx hy h=>?_)
  intro e
  have h1:=(List.mem_filter.1 hx).2
  have h2:=(List.mem_filter.1 hy).2
  simp only [JL,Bool.and_eq_true,decide_eq_true_eq] at h1 h2
  rw[e,h2.2] at h1
  exact h ⟨e,by rw[Option.some.inj h1.2]⟩
 obtain⟨h1,h2⟩:=Dh (vs.filter (JL vs a)) [] .nil (fun _ _ q hq=>by simp at hq) hk
 refine⟨h1,fun p=>?_⟩
 rw[TJ,h2 p,iW]
 constructor
 ·rintro (h|⟨x,hx,rfl⟩)
  ·simp at h
  ·have h3:=(List.mem_filter.1 hx).2
   simp only [JL,Bool.and_eq_true,decide_eq_true_eq,Bool.not_eq_true'] at h3
   exact⟨x,h3.2,h3.1,rfl⟩
 ·rintro ⟨x,h4,h5,h6⟩
  obtain⟨g1,g2,g3⟩:=qG h4
  refine .inr ⟨x,List.mem_filter.2 ⟨g1,?_⟩,?_⟩
  ·simp only [JL,Bool.and_eq_true,decide_eq_true_eq,Bool.not_eq_true']
   rw[g2];exact⟨h5,h4⟩
  ·rw[g2,h6]
def hs (l:List Ver)(s:ByteArray):List Ver:=l.filter (fun x=>decide (x.k=s))
theorem NM {l:List Ver}{s:ByteArray}{x:Ver}:x∈hs l s↔x∈l/\x.k=s:=by simp[hs]
theorem DC (l:List Ver)(s:ByteArray):(hs l s).length<=l.length:=List.length_filter_le _ _
theorem afc {l:List Ver}{s:ByteArray}:hs l s=[] ↔ ∀x∈l,x.k≠s:=by
 rw[hs,List.filter_eq_nil_iff]
 simp
abbrev Up (h:List Ver):Prop:=h.Pairwise (fun x y=>x.n<y.n)
theorem OO {l:List Ver}{top:Int}(hT:OkT l top)(s:ByteArray):Up (hs l s):=by
 refine ((hT.rise.and hT.once).filter _).imp_of_mem (fun {x y} hx hy h=>?_)
 have h1:x.k=s:=by simpa using (List.mem_filter.1 hx).2
 have h2:y.k=s:=by simpa using (List.mem_filter.1 hy).2
 have h3:¬x.n=y.n:=fun e=>h.2 ⟨h1.trans h2.symm,e⟩
 have:=h.1
 omega
def upN (h:List Ver)(a:Int):Nat:=h.countP (fun x=>decide (x.n<=a))
theorem ZM (h:List Ver)(a:Int):upN h a<=h.length:=List.countP_le_length
theorem DR:∀{h:List Ver} (_:Up h) (a:Int),h.filter (fun x=>decide (x.n<=a))=h.take (upN h a)
 | [],_,_=>rfl
 | x :: r,hu,a=>by
  obtain⟨h1,h2⟩:=List.pairwise_cons.1 hu
  by_cases c:x.n<=a
  ·rw[List.filter_cons_of_pos (by simpa using c),upN,List.countP_cons_of_pos (by simpa using c),List.take_succ_cons,DR h2 a,upN]
  ·have e:r.filter (fun x=>decide (x.n<=a))=[]:=List.filter_eq_nil_iff.2 (fun y hy=>by have:=h1 y hy;simp;omega)
   rw[List.filter_cons_of_neg (by simpa using c),e,upN,List.countP_cons_of_neg (by simpa using c),List.countP_eq_length_filter,e]
   rfl
theorem OD:∀{h:List Ver} (_:Up h) (a:Int),h.filter (fun x=>decide (a<x.n))=h.drop (upN h a)
 | [],_,_=>rfl
 | x :: r,hu,a=>by
  obtain⟨h1,h2⟩:=List.pairwise_cons.1 hu
  by_cases c:x.n<=a
  ·rw[List.filter_cons_of_neg (by simp;omega),upN,List.countP_cons_of_pos (by simpa using c),List.drop_succ_cons,OD h2 a,upN]
  ·have e:r.filter (fun x=>decide (x.n<=a))=[]:=List.filter_eq_nil_iff.2 (fun y hy=>by have:=h1 y hy;simp;omega)
   have e2:(x :: r).filter (fun x=>decide (a<x.n))=x :: r:=List.filter_eq_self.2 (fun y hy=>by
    rcases List.mem_cons.1 hy with rfl|hy
    ·simp;omega
    ·have:=h1 y hy;simp;omega)
   rw[e2,upN,List.countP_cons_of_neg (by simpa using c),List.countP_eq_length_filter,e]
   rfl
theorem YJ {h:List Ver}(hu:Up h)(a:Int){i:Nat}{x:Ver}(hx:h[i]? = some x):x.n<=a↔i<upN h a:=by
 constructor
 ·intro c
  apply Classical.byContradiction
  intro g
  have:x∈h.drop (upN h a):=by
   rw[List.mem_iff_getElem?]
   exact⟨i - upN h a,by rw[List.getElem?_drop,show upN h a+(i - upN h a)=i from by omega];exact hx⟩
  rw[<- OD hu,List.mem_filter] at this
  have:=this.2
  simp at this
  omega
 ·intro c
  have:x∈h.take (upN h a):=by
   rw[List.mem_iff_getElem?]
   exact⟨i,by rw[List.getElem?_take,if_pos c];exact hx⟩
  rw[<- DR hu,List.mem_filter] at this
  simpa using this.2
theorem ac5 (h:List Ver)(a:Int)(p:Nat->Bool)(hp:∀i x,h[i]? = some x->p i=decide (a<x.n)):(List.range h.length).countP (fun i => !p i)=upN h a:=by
 have key:∀(r:List Ver) (o:Nat),(∀i x,r[i]? = some x->p (o+i)=decide (a<x.n))->(List.range' o r.length).countP (fun i => !p i)=upN r a:=by
  intro r
  induction r with
  | nil=>intro o _;rfl
  | cons x r ih=>
   intro o hr
   have h0:=hr 0 x rfl
   rw[List.length_cons,List.range'_succ,List.countP_cons,ih (o+1) (fun i y hy=>by rw[show o+1+i=o+(i+1) from by omega];exact hr (i+1) y (by simpa using hy)),upN,upN,List.countP_cons]
   congr 1
   rw[show o+0=o from rfl] at h0
   rw[h0]
   by_cases c:x.n<=a
   ·have:¬a<x.n:=by omega
    simp[c,this]
   ·have:a<x.n:=by omega
    simp[c,this]
 rw[List.range_eq_range']
 exact key h 0 (fun i x hx=>by rw[Nat.zero_add];exact hp i x hx)
def QV (h:List Ver)(a:Int):Option Ver:=(h.take (upN h a)).getLast?
theorem agt {l:List Ver}{top:Int}(hT:OkT l top)(s:ByteArray)(a:Int):see l s a=QV (hs l s) a:=by
 rw[QV,<- DR (OO hT s),see,hs,List.filter_filter]
 congr 1
 apply List.filter_congr
 intro x _
 rw[hit,Bool.and_comm]
theorem agb {h:List Ver}{a:Int}(e:upN h a=0):QV h a=none:=by rw[QV,e];rfl
theorem adn {h:List Ver}{a:Int}(e:0<upN h a):∃x,h[upN h a - 1]? = some x/\QV h a=some x:=by
 have h1:=ZM h a
 have hi:upN h a - 1<h.length:=by omega
 refine⟨h[upN h a - 1],List.getElem?_eq_getElem hi,?_⟩
 rw[QV,List.getLast?_eq_getElem?,List.length_take,Nat.min_eq_left h1,List.getElem?_take,if_pos (by omega)]
 exact List.getElem?_eq_getElem hi
def vlH (h:List Ver)(a:Int):Option ByteArray:=match QV h a with
 | some x=>if x.g=true then none else some x.v
 | none=>none
theorem UM {l:List Ver}{top:Int}(hT:OkT l top)(s:ByteArray)(a:Int):bG l s a=vlH (hs l s) a:=by
 rw[bG,agt hT];rfl
def lsN (h:List Ver):Int:=match h.getLast? with
 | some x=>x.n
 | none=>0
theorem yJ:lsN []=0:=rfl
theorem Y3 {h:List Ver}(e:0<h.length):∃x,h[h.length - 1]? = some x/\lsN h=x.n:=by
 have hi:h.length - 1<h.length:=by omega
 refine⟨h[h.length - 1],List.getElem?_eq_getElem hi,?_⟩
 rw[lsN,List.getLast?_eq_getElem?,List.getElem?_eq_getElem hi]
def wiH (h:List Ver)(x:Ver):List Ver:=(if lsN h=x.n then h.dropLast else h) ++ [x]
theorem aea {l:List Ver}{top:Int}(hT:OkT l top){x:Ver}(hx:ptF x top=0):hs (yt l x) x.k=wiH (hs l x.k) x:=by
 obtain⟨hv,ht⟩:=RF hx
 have hu:=OO hT x.k
 have hb:∀y∈hs l x.k,y.n<=x.n/\y.k=x.k:=fun y hy=>by
  obtain⟨h1,h2⟩:=NM.1 hy
  have:=(hT.each y h1).2
  exact⟨by omega,h2⟩
 have e1:hs (yt l x) x.k=(hs l x.k).filter (fun y => !same x y) ++ [x]:=by
  rw[hs,yt,List.filter_append,hs,List.filter_filter,List.filter_filter]
  congr 1
  ·apply List.filter_congr
   intro y _
   rw[Bool.and_comm]
  ·simp
 rw[e1,wiH]
 congr 1
 generalize hs l x.k=h at hu hb
 rcases List.eq_nil_or_concat h with rfl|⟨r,z,rfl⟩
 ·have:¬lsN []=x.n:=by have:=hv.2.2.2.1;rw[yJ];omega
  rw[if_neg this];rfl
 ·have hz:=hb z (by simp)
  have hl:lsN (r ++ [z])=z.n:=by simp[lsN]
  have hr:r.filter (fun y => !same x y)=r:=List.filter_eq_self.2 (fun y hy=>by
   have h1:=(List.pairwise_append.1 (by simpa using hu)).2.2 y hy z (by simp)
   have:¬y.n=x.n:=by have:=hz.1;omega
   simp[same,this])
  simp only [List.concat_eq_append] at *
  rw[List.filter_append,hr,hl]
  by_cases c:z.n=x.n
  ·rw[if_pos c]
   simp[same,c,hz.2]
  ·rw[if_neg c]
   simp[same,c]
theorem LP {l:List Ver}{x:Ver}{s:ByteArray}(hne:s≠x.k):hs (yt l x) s=hs l s:=by
 rw[hs,yt,List.filter_append,hs,List.filter_filter]
 rw[show [x].filter (fun y=>decide (y.k=s))=[] from by simp;exact fun e=>hne e.symm,List.append_nil]
 apply List.filter_congr
 intro y _
 by_cases c:y.k=s
 ·simp[same,c,hne]
 ·simp[c]
theorem afq (h:List Ver)(x:Ver):wiH h x ≠ []:=by simp[wiH]
theorem UJ {l:List Ver}{top:Int}(hT:OkT l top)(lo hi:ByteArray)(a:Int)(ha:0<=a):iO l lo hi a=true ↔ ∃s,btw lo hi s=true/\a<lsN (hs l s):=by
 rw[iO,List.any_eq_true]
 constructor
 ·rintro ⟨x,hx,h⟩
  simp only [Bool.and_eq_true,decide_eq_true_eq] at h
  refine⟨x.k,h.1,?_⟩
  have hm:x∈hs l x.k:=NM.2 ⟨hx,rfl⟩
  have hu:=OO hT x.k
  generalize hs l x.k=g at hm hu
  rcases List.eq_nil_or_concat g with rfl|⟨r,z,rfl⟩
  ·simp at hm
  ·simp only [List.concat_eq_append] at *
   have hl:lsN (r ++ [z])=z.n:=by simp[lsN]
   rw[hl]
   rcases List.mem_append.1 hm with m|m
   ·have:=(List.pairwise_append.1 hu).2.2 x m z (by simp)
    omega
   ·rw[<- List.mem_singleton.1 m];exact h.2
 ·rintro ⟨s,h1,h2⟩
  by_cases e:0<(hs l s).length
  ·obtain⟨x,hx,hn⟩:=Y3 e
   obtain⟨m1,m2⟩:=NM.1 (List.mem_of_getElem? hx)
   exact⟨x,m1,by rw[m2,h1];rw[hn] at h2;simpa using h2⟩
  ·have:hs l s=[]:=List.eq_nil_of_length_eq_zero (by omega)
   rw[this,yJ] at h2
   omega
theorem eY {α : Type}[DecidableEq α]:∀{ks ms:List α},ks.Nodup->(∀x∈ks,x∈ms)->ks.length<=ms.length
 | [],_,_,_=>Nat.zero_le _
 | k :: r,ms,hn,hm=>by
  obtain⟨h1,h2⟩:=List.nodup_cons.1 hn
  have:=eY (ms:=ms.erase k) h2 (fun x hx=>(List.mem_erase_of_ne (fun e=>h1 (by rw[<- e];exact hx))).2 (hm x (by simp[hx])))
  rw[List.length_erase_of_mem (hm k (by simp))] at this
  have h0:0<ms.length:=List.length_pos_of_mem (hm k (by simp))
  rw[List.length_cons];omega
structure yQ (qs:List Pr)(o:Ox):Prop where
 len:(qs.length:Int)=o.asked
 mem:∀s,s∈qs↔(∃k∈o.keys,s=(k,kz k)) \/ s∈o.spans
theorem yQ.new (i s:Int):yQ [] ⟨i,s,0,[],[],[]⟩:=⟨rfl,fun s=>by simp⟩
theorem yQ.key {qs:List Pr}{o:Ox}(h:yQ qs o)(k:ByteArray):yQ (qs ++ [(k,kz k)]) (dN o k):=by
 refine⟨?_,fun s=>?_⟩
 ·show ((qs ++ [(k,kz k)]).length:Int)=o.asked+1
  have:=h.len
  rw[List.length_append];simp;omega
 ·show _↔(∃x∈o.keys ++ [k],s=(x,kz x)) \/ s∈o.spans
  rw[List.mem_append,h.mem s,List.mem_singleton]
  constructor
  ·rintro ((⟨x,hx,e⟩|g)|g)
   ·exact .inl ⟨x,List.mem_append.2 (.inl hx),e⟩
   ·exact .inr g
   ·exact .inl ⟨k,List.mem_append.2 (.inr (by simp)),g⟩
  ·rintro (⟨x,hx,e⟩|g)
   ·rcases List.mem_append.1 hx with hx|hx
    ·exact .inl (.inl ⟨x,hx,e⟩)
    ·rw[List.mem_singleton.1 hx] at e;exact .inr e
   ·exact .inl (.inr g)
theorem yQ.span {qs:List Pr}{o:Ox}(h:yQ qs o)(lo hi:ByteArray):yQ (qs ++ [(lo,hi)]) (iL o lo hi):=by
 refine⟨?_,fun s=>?_⟩
 ·show ((qs ++ [(lo,hi)]).length:Int)=o.asked+1
  have:=h.len
  rw[List.length_append];simp;omega
 ·show _↔(∃x∈o.keys,s=(x,kz x)) \/ s∈o.spans ++ [(lo,hi)]
  rw[List.mem_append,h.mem s,List.mem_append,List.mem_singleton,or_assoc]
theorem Xp {qs:List Pr}{o:Ox}(h:yQ qs o)(vs:List Ver):clash vs o=(qs.any (fun s=>iO vs s.1 s.2 o.sees) || o.own.any (fun c=>iO vs c.k (kz c.k) o.sees)):=by
 rw[Bool.eq_iff_iff]
 simp only [clash,Bool.or_eq_true,List.any_eq_true]
 constructor
 ·rintro ((⟨k,hk,e⟩|⟨c,hc,e⟩)|⟨s,hs,e⟩)
  ·exact .inl ⟨(k,kz k),(h.mem _).2 (.inl ⟨k,hk,rfl⟩),by rw[BR];exact e⟩
  ·exact .inr ⟨c,hc,by rw[BR];exact e⟩
  ·exact .inl ⟨s,(h.mem _).2 (.inr hs),e⟩
 ·rintro (⟨s,hs,e⟩|⟨c,hc,e⟩)
  ·rcases (h.mem s).1 hs with ⟨k,hk,rfl⟩|hs
   ·exact .inl (.inl ⟨k,hk,by rw[BR] at e;exact e⟩)
   ·exact .inr ⟨s,hs,e⟩
  ·exact .inl (.inr ⟨c,hc,by rw[BR] at e;exact e⟩)
theorem VY (x:Chg)(r:List Chg)(k:ByteArray):bP (x :: r) k=if x.k=k then some x else bP r k:=by
 unfold bP
 rw[List.find?_cons]
 by_cases e:x.k=k
 ·simp[e]
 ·simp[e]
theorem zG:∀{l:List Chg} (_:dP l) (c:Chg),(bI l c).length=if (bP l c.k).isSome=true then l.length else l.length+1
 | [],_,c=>by simp[bI,bP]
 | x :: r,h,c=>by
  obtain⟨h1,h2⟩:=List.pairwise_cons.1 h
  rw[bI,VY]
  by_cases e:c.k=x.k
  ·rw[if_pos e,if_pos e.symm];simp
  ·rw[if_neg e,if_neg (show ¬x.k=c.k from fun g=>e g.symm)]
   by_cases b:bl c.k x.k=true
   ·rw[if_pos b,iV.2 (fun y hy e'=>by have:=dA b (h1 y hy);rw[e',dw] at this;cases this)]
    simp
   ·rw[if_neg b,List.length_cons,zG h2 c]
    split <;> simp
structure Gto (own:List Chg)(base:List Pr)(lo hi:ByteArray)(left:ByteArray->Bool)(ps:List Pr):Prop where
 mem:∀p,p∈ps↔p∈base \/ ((∃c,bP own p.1=some c/\c.g=false/\c.v=p.2)/\btw lo hi p.1=true/\left p.1=false)
 once:ps.Pairwise (fun p q=>p.1≠q.1)
theorem Gto.len {own:List Chg}{base:List Pr}{lo hi:ByteArray}{left:ByteArray->Bool}{ps:List Pr}(h:Gto own base lo hi left ps):ps.length<=base.length+own.length:=by
 have:=eY (ks:=ps.map (·.1)) (ms:=base.map (·.1)++own.map (·.k)) (List.pairwise_map.2 h.once) (fun x hx=>by
  obtain⟨p,hp,rfl⟩:=List.mem_map.1 hx
  rcases (h.mem p).1 hp with g|⟨⟨c,g,_⟩,_⟩
  ·exact List.mem_append.2 (.inl (List.mem_map.2 ⟨p,g,rfl⟩))
  ·obtain⟨g1,g2⟩:=bZ g
   exact List.mem_append.2 (.inr (List.mem_map.2 ⟨c,g1,g2⟩)))
 simpa using this
theorem Gto.start {own:List Chg}{base:List Pr}{lo hi:ByteArray}{left:ByteArray->Bool}(hb:rises base)(h:∀k c,bP own k=some c->left k=true):Gto own base lo hi left base:=
 ⟨fun p=>⟨.inl,fun g=>g.elim id (fun⟨⟨c,g1,_⟩,_,g3⟩=>by rw[h _ c g1] at g3;cases g3)⟩,hb.imp (fun h=>Qk h)⟩
theorem Gto.skip {own:List Chg}{base:List Pr}{lo hi:ByteArray}{left left':ByteArray->Bool}{ps:List Pr}(h:Gto own base lo hi left ps){s:ByteArray}{c:Chg}(hc:bP own s=some c)(hl:∀t,left' t=(left t && !decide (t=s)))(hn:btw lo hi s=false \/ c.g=true):Gto own base lo hi left' ps:=by
 refine⟨fun p=>?_,h.once⟩
 rw[h.mem p,hl]
 refine or_congr_right ?_
 by_cases e:p.1=s
 ·constructor
  ·rintro ⟨g1,g2,g3⟩;exact⟨g1,g2,by rw[g3];rfl⟩
  ·rintro ⟨⟨c',g1,g2,g4⟩,g5,_⟩
   rw[e] at g1 g5
   rw[hc] at g1
   cases g1
   rcases hn with hn|hn
   ·rw[hn] at g5;cases g5
   ·rw[hn] at g2;cases g2
 ·simp[e]
theorem Gto.more {own:List Chg}{base:List Pr}{lo hi:ByteArray}{left left':ByteArray->Bool}{ps:List Pr}(h:Gto own base lo hi left ps)(hbase:∀p∈base,bP own p.1=none){s:ByteArray}{c:Chg}(hc:bP own s=some c)(hs:left s=true)(hl:∀t,left' t=(left t && !decide (t=s)))(hb:btw lo hi s=true)(hg:c.g=false):Gto own base lo hi left' (ps ++ [(s,c.v)]):=by
 have hno:∀p∈ps,p.1≠s:=fun p hp e=>by
  rcases (h.mem p).1 hp with g|⟨_,_,g⟩
  ·have:=hbase p g;rw[e,hc] at this;cases this
  ·rw[e,hs] at g;cases g
 refine⟨fun p=>?_,List.pairwise_append.2 ⟨h.once,List.pairwise_singleton _ _,fun p hp q hq=>by rw[List.mem_singleton.1 hq];exact hno p hp⟩⟩
 rw[List.mem_append,h.mem p,hl,List.mem_singleton,or_assoc]
 refine or_congr_right ?_
 by_cases e:p.1=s
 ·constructor
  ·rintro (⟨_,_,g⟩|rfl)
   ·rw[e,hs] at g;cases g
   ·exact⟨⟨c,hc,hg,rfl⟩,hb,by simp⟩
  ·rintro ⟨⟨c',g1,g2,g3⟩,_,_⟩
   rw[e,hc] at g1
   cases g1
   exact .inr (Prod.ext e g3.symm)
 ·constructor
  ·rintro (⟨g1,g2,g3⟩|rfl)
   ·exact⟨g1,g2,by simp[g3]⟩
   ·exact absurd rfl e
  ·rintro ⟨g1,g2,g3⟩
   exact .inl ⟨g1,g2,by simpa [e] using g3⟩
def bsO (vs:List Ver)(sees:Int)(own:List Chg)(lo hi:ByteArray):List Pr:=(jd vs lo hi sees).filter (fun p=>(bP own p.1).isNone)
theorem V7 {vs:List Ver}{top:Int}(hT:OkT vs top)(sees:Int)(own:List Chg)(lo hi:ByteArray):rises (bsO vs sees own lo hi):=(xM hT lo hi sees).1.filter _
theorem aeL {vs:List Ver}{sees:Int}{own:List Chg}{lo hi:ByteArray}:∀p∈bsO vs sees own lo hi,bP own p.1=none:=fun p hp=>by
 have:=(List.mem_filter.1 hp).2
 rwa [Option.isNone_iff_eq_none] at this
theorem JK {r s:List Pr}(hp:s.Perm r)(hs:s.Pairwise (fun p q=>bl q.1 p.1=false))(hk:r.Pairwise (fun p q=>p.1≠q.1)):rises s:=by
 have hk2:s.Pairwise (fun p q=>p.1≠q.1):=(hp.pairwise_iff (fun {_ _} h=>Ne.symm h)).2 hk
 refine (hs.and hk2).imp (fun {p q} h=>?_)
 cases e:bl p.1 q.1
 ·exact absurd (qj e h.1) h.2
 ·rfl
theorem Gto.all {vs:List Ver}{top:Int}(hT:OkT vs top){own:List Chg}(hr:dP own){sees:Int}{lo hi:ByteArray}{left:ByteArray->Bool}{ps ys:List Pr}(h:Gto own (bsO vs sees own lo hi) lo hi left ps)(hl:∀t,left t=false)(hp:ys.Perm ps)(hs:ys.Pairwise (fun p q=>bl q.1 p.1=false)):ys=fJ vs sees own lo hi:=by
 obtain⟨g1,g2⟩:=yX hT hr sees lo hi
 obtain⟨v1,v2⟩:=xM hT lo hi sees
 refine qX (JK hp hs h.once) g1 (fun p=>?_)
 rw[hp.mem_iff,h.mem p,g2 p,bsO,List.mem_filter,v2 p,hl,Option.isNone_iff_eq_none]
 unfold aT
 cases e:bP own p.1 with
 | none=>simp
 | some c=>
  cases eg:c.g
  ·simp[eg,and_comm]
  ·simp[eg]
def shL (vs:List Ver)(l:List Chg)(n:Int)(i:Nat):List Ver:=vs++(l.take i).map (fF n)
def shT (top n:Int)(i:Nat):Int:=if i=0 then top else n
theorem ac7 (vs:List Ver)(l:List Chg)(n:Int)(i:Nat):(shL vs l n i).length<=vs.length+l.length:=by
 rw[shL,List.length_append,List.length_map,List.length_take];omega
theorem acH (vs:List Ver)(l:List Chg)(n:Int):shL vs l n l.length=vs++l.map (fF n):=by rw[shL,List.take_length]
theorem abg {vs:List Ver}{top n:Int}{l:List Chg}(hT:OkT vs top)(hl:chF l=0)(hn:top<n)(hm:n<=1000000){i:Nat}{c:Chg}(hc:l[i]? = some c) :
  ptF (fF n c) (shT top n i)=0/\yt (shL vs l n i) (fF n c)=shL vs l n (i+1)/\shT top n (i+1)=n:=by
 have hi:=(List.getElem?_eq_some_iff.1 hc).1
 have hcm:=List.mem_of_getElem? hc
 obtain⟨a1,a2,a3,_⟩:=iJ ((fU hl).2 c hcm)
 have h0:=hT.t0
 refine⟨?_,?_,rfl⟩
 ·unfold ptF
  rw[show shF (fF n c).k (fF n c).v=0 from if_neg (by show ¬(c.k.size<1 \/ 24<c.k.size \/ 12<c.v.size);omega),if_pos rfl,if_neg (by show ¬(n<1 \/ 1000000<n);omega),if_neg]
  show ¬n<shT top n i
  unfold shT
  split <;> omega
 ·rw[yt,List.filter_eq_self.2,shL,shL,List.take_add_one,hc,Option.toList_some,List.map_append,List.append_assoc]
  ·rfl
  ·intro y hy
   unfold same
   rw[shL] at hy
   rcases List.mem_append.1 hy with hy|hy
   ·have:=(hT.each y hy).2
    simp
    exact .inr (fun e=>by have e:y.n=n:=e;omega)
   ·obtain⟨x,hx,rfl⟩:=List.mem_map.1 hy
    obtain⟨j,hj,e⟩:=List.mem_iff_getElem.1 hx
    have hj2:j<i:=by
     have:=hj
     rw[List.length_take] at this;omega
    have hne:x.k≠c.k:=by
     have hr:=List.pairwise_iff_getElem.1 (dV hl) j i (by omega) hi hj2
     have e1:l[j]=x:=by rw[<- e];simp
     have e2:l[i]=c:=(List.getElem?_eq_some_iff.1 hc).2
     rw[e1,e2] at hr
     exact Qk hr
    simp
    exact .inl hne
theorem Zn {ls:List (List Chg)}{i:Nat}{l:List Chg}(h:ls[i]? = some l):tab (ls.take (i+1))=tab (ls.take i)++l.map (fF (i+1)):=by
 have hi:=(List.getElem?_eq_some_iff.1 h).1
 rw[List.take_add_one,h,Option.toList_some,TK,List.length_take,show min i ls.length=i from by omega]
def hiK:ByteArray:=⟨(List.replicate 25 (255:UInt8)).toArray⟩
theorem aaj:∀(x:List UInt8) (m:Nat),x.length<m->Op.bytesLess x (List.replicate m 255)=true
 | _,0,h=>by omega
 | [],m+1,_=>rfl
 | a :: r,m+1,h=>by
  rw[List.replicate_succ]
  simp only [Op.bytesLess,Bool.or_eq_true,Bool.and_eq_true,decide_eq_true_eq,beq_iff_eq]
  by_cases c:a<255
  ·exact .inl c
  ·refine .inr ⟨?_,aaj r m (by simpa using h)⟩
   have h1:¬a.toNat<255:=fun g=>c (UInt8.lt_iff_toNat_lt.2 g)
   have h2:=a.toNat_lt
   exact UInt8.toNat_inj.1 (by show a.toNat=255;omega)
theorem aa5 {k:ByteArray}(h:k.size<=24):btw ByteArray.empty hiK k=true:=by
 have h1:bl k ByteArray.empty=false:=by
  unfold bl
  rw[Lib.toList_data,Lib.toList_data]
  show Op.bytesLess k.data.toList []=false
  cases k.data.toList <;> rfl
 have h2:bl k hiK=true:=by
  unfold bl
  rw[Lib.toList_data,Lib.toList_data]
  exact aaj k.data.toList 25 (by rw[Array.length_toList];show k.size<25;omega)
 rw[btw,h1,h2];rfl
theorem abP {d:Dk}(h:OkD d):jd d.vs ByteArray.empty hiK d.last=iK d:=by
 obtain⟨g1,g2⟩:=xM h.tb ByteArray.empty hiK d.last
 obtain⟨a1,a2⟩:=qE h.tb d.last
 rw[rC]
 refine qX g1 a1 (fun p=>?_)
 rw[g2 p,a2 p]
 refine⟨And.right,fun e=>⟨?_,e⟩⟩
 obtain⟨x,h1,_,_⟩:=iW.1 e
 obtain⟨h2,h3,_⟩:=qG h1
 rw[<- h3]
 exact aa5 ((h.tb.each x h2).1.2.1)
theorem ahP {d:Dk}(h:OkD d):(sfN (flD d):Int)=if flF d=0 then d.last else sfN d:=by
 have e:=agC d.lg
 have hs:sfN (flD d)=(dG (syG d.lg).safe d.lg.ls).length:=by show (dG (syG d.lg).safe (syG d.lg).ls).length=_;rw[e]
 rw[hs]
 unfold flF syF syG
 by_cases h3:d.lg.down=true
 ·rw[if_pos h3,if_pos h3,if_neg (by decide)];rfl
 ·rw[if_neg h3,if_neg h3]
  by_cases h4:d.lg.left=0
  ·rw[if_pos h4,if_pos h4,if_neg (by decide)];rfl
  ·rw[if_neg h4,if_neg h4,if_pos rfl]
   show ((dG d.lg.by.length d.lg.ls).length:Int)=d.last
   rw[(h.lg.up (by simpa using h3)).2,Lc (Nat.le_refl _)]
   exact h.last.symm
theorem Vy {n:Nat}{ls:List (List Chg)}(h:n<=(frs ls).length)(l:List Chg):(dG n (ls ++ [l])).length=(dG n ls).length:=by
 obtain⟨k,h1,h2,h3⟩:=iE n (ls ++ [l])
 have hk:k<=ls.length:=by
  by_cases c:k<=ls.length
  ·exact c
  ·have e:k=(ls ++ [l]).length:=by simp at h1 ⊢;omega
   rw[e,List.take_length,qL,zh,List.length_append,fC] at h3
   omega
 have h4:=Ey (n:=n) (ls:=ls) (k:=k) hk (by rw[List.take_append_of_le_length hk] at h3;exact h3)
 have h5:(dG n (ls ++ [l])).length=k:=by rw[h2,List.length_take];omega
 have:=VT n ls l
 omega
theorem ahC {d:Dk}(h:OkD d)(i:Int):sfN (cmD d i)=sfN d:=by
 rcases P9 h i with ⟨h1,_,h3,_⟩|⟨own,_,h1,_,h3,_⟩
 ·unfold sfN;rw[h1,h3]
 ·unfold sfN;rw[h1,h3,Vy h.lg.safe]
theorem ahr (d:Dk)(n:Int):(sfN (cdD d n):Int)=(cdD d n).last:=by
 show (((dG (frs (dG (crN d.lg n) d.lg.ls)).length (dG (crN d.lg n) d.lg.ls)).length:Nat):Int)=((crG d.lg n).ls.length:Int)
 rw[Lc (Nat.le_refl _)];rfl
theorem Cc {d:Dk}{o o':Ox}(ho:opI d o.id=some o)(e:o'.id=o.id)(i:Int):opI (bM d o') i=if i=o.id then some o' else opI d i:=by
 unfold opI bM at *
 simp only
 generalize d.op=l at *
 induction l with
 | nil=>simp at ho
 | cons x r ih=>
  rw[List.map_cons,List.find?_cons,List.find?_cons]
  rw[List.find?_cons] at ho
  by_cases c:x.id=o'.id
  ·rw[if_pos c]
   by_cases c2:i=o.id
   ·rw[if_pos c2,decide_eq_true (show o'.id=i by omega)]
   ·rw[if_neg c2,decide_eq_false (show ¬o'.id=i by omega),decide_eq_false (show ¬x.id=i by omega)]
    simp only
    have:∀(r:List Ox),(r.map (fun o=>if o.id=o'.id then o' else o)).find? (fun o=>decide (o.id=i))=r.find? (fun o=>decide (o.id=i)):=by
     intro r
     induction r with
     | nil=>rfl
     | cons y s ih2=>
      rw[List.map_cons,List.find?_cons,List.find?_cons,ih2]
      by_cases c3:y.id=o'.id
      ·rw[if_pos c3,decide_eq_false (show ¬o'.id=i by omega),decide_eq_false (show ¬y.id=i by omega)]
      ·rw[if_neg c3]
    exact this r
  ·rw[if_neg c]
   have hx:¬x.id=o.id:=by omega
   rw[decide_eq_false hx] at ho
   by_cases c2:x.id=i
   ·rw[decide_eq_true c2,if_neg (by omega)]
   ·rw[decide_eq_false c2]
    exact ih ho
theorem Qx {d:Dk}(hp:d.op.Pairwise (fun a b=>a.id<b.id)){o:Ox}(ho:o∈d.op):bM d o=d:=by
 unfold bM
 have:d.op.map (fun x=>if x.id=o.id then o else x)=d.op:=by
  conv=>rhs;rw[<- List.map_id d.op]
  refine List.map_congr_left (fun x hx=>?_)
  split
  ·rename_i e;rw[DJ hp hx ho e];rfl
  ·rfl
 rw[this]
theorem Nv (d:Dk)(i j:Int):opI (bT d i) j=if j=i then none else opI d j:=by
 unfold opI bT
 simp only
 generalize d.op=l
 by_cases c:j=i
 ·rw[if_pos c,List.find?_eq_none]
  intro x hx
  have:=(List.mem_filter.1 hx).2
  subst c
  simpa using this
 ·rw[if_neg c]
  induction l with
  | nil=>rfl
  | cons x r ih=>
   rw[List.filter_cons,List.find?_cons]
   by_cases c2:x.id=i
   ·rw[if_neg (by simp[c2]),ih,decide_eq_false (show ¬x.id=j by omega)]
   ·rw[if_pos (by simp[c2]),List.find?_cons,ih]
theorem ac4 (d:Dk)(o:Ox)(l:Lg)(vs:List Ver)(t la ids:Int)(h:opI d o.id=none)(j:Int):opI ⟨l,vs,t,la,ids,d.op ++ [o]⟩ j=if j=o.id then some o else opI d j:=by
 unfold opI at *
 simp only
 rw[List.find?_append]
 by_cases c:j=o.id
 ·rw[if_pos c,c,h];simp
 ·rw[if_neg c]
  cases d.op.find? (fun o=>decide (o.id=j)) with
  | some x=>rfl
  | none=>simp;omega
end Vs
namespace Vs
def enS (l:List Chg):List UInt8:=if chF l=0 then bH l else []
end Vs
namespace Vs
open Go
theorem Zf:∀{l:List Ox} {o:Ox},o∈l->o.own.length<=wtO l
 | x :: r,o,h=>by
  have e:wtO (x :: r)=x.own.length+wtO r:=by simp[wtO]
  rw[e]
  rcases List.mem_cons.1 h with rfl|h
  ·omega
  ·have:=Zf h;omega
