/- -/
import Derived.Test.YtcjdoeclblhaeaaGreatDoorRAdStrMath
import Derived.Lib.IndexMore
import Derived.Lib.ItoaNum
import Derived.Test.YtcjdoeclblhaeaaGreatDoorRVsMath
import Derived.Test.YtcjdoeclblhaeaaGreatDoorRCvMath
namespace Bur
open Go
def cutc (c:UInt8):List UInt8->List UInt8×List UInt8×Bool
 | []=>([],[],false)
 | b :: l=>if b=c then ([],l,true) else (b :: (cutc c l).1,(cutc c l).2.1,(cutc c l).2.2)
theorem cut_eq (c:UInt8):∀ l:List UInt8,Lib.cut l [c]=cutc c l
 | []=>by simp[Lib.cut,Lib.index,cutc]
 | b :: l=>by
  have ih:=cut_eq c l
  unfold Lib.cut at ih ⊢
  simp only [cutc]
  by_cases h:b=c
  ·subst h
   simp[Lib.index]
  ·have h2:([c]:List UInt8).isPrefixOf (b :: l)=false:=by
    show (c==b&&_)=false
    rw[beq_eq_false_iff_ne.2 (Ne.symm h)];rfl
   rw[if_neg h,<- ih]
   simp only [Lib.index,h2]
   by_cases h3:Lib.index l [c] = -1
   ·simp[h3]
   ·have h4:0<=Lib.index l [c]:=by
     have:=ih
     exact Int.not_lt.1 (fun hn=>h3 (by have:=Lib.index_ge l [c];omega))
    have h5:(Lib.index l [c] == -1)=false:=by simp[h3]
    rw[if_pos h4]
    simp only [h5]
    have e:(Lib.index l [c]+1).toNat=(Lib.index l [c]).toNat+1:=by omega
    simp[e,show 0<=Lib.index l [c]+1 from by omega]
theorem cutc_len (c:UInt8):∀ l:List UInt8,(cutc c l).1.length<=l.length/\(cutc c l).2.1.length<=l.length
 | []=>by simp[cutc]
 | b :: l=>by
  have:=cutc_len c l
  simp only [cutc]
  split
  ·simp
  ·simp;omega
end Bur
namespace Go.Proofs.YtcjdoeclblhaeaaGreatDoor.Rn
def lns:List UInt8->List (List UInt8)
 | []=>[]
 | x :: r=>if x=10 then [] :: lns r else match lns r with
  | []=>[[x]]
  | a :: b=>(x :: a) :: b
theorem lns_nil {t:List UInt8}:lns t=[]↔t=[]:=by
 cases t with
 | nil=>exact⟨fun _=>rfl,fun _=>rfl⟩
 | cons x r=>
  refine⟨fun h=>?_,fun h=>by cases h⟩
  unfold lns at h
  split at h
  ·cases h
  ·split at h <;> cases h
theorem lns_cut:∀ t:List UInt8,t ≠ []->lns t=(Bur.cutc 10 t).1 :: lns (Bur.cutc 10 t).2.1
 | [],h=>absurd rfl h
 | x :: r,_=>by
  by_cases hx:x=10
  ·simp only [lns,Bur.cutc,if_pos hx]
  ·cases r with
   | nil=>simp[lns,Bur.cutc,hx]
   | cons y s=>
    have ih:=lns_cut (y :: s) (by simp)
    have e1:lns (x :: y :: s)=match lns (y :: s) with | []=>[[x]]|a :: b=>(x :: a) :: b:=by
     rw[lns,if_neg hx]
    have e2:Bur.cutc 10 (x :: y :: s)=(x :: (Bur.cutc 10 (y :: s)).1,(Bur.cutc 10 (y :: s)).2.1,(Bur.cutc 10 (y :: s)).2.2):=by
     rw[Bur.cutc,if_neg hx]
    rw[e1,ih,e2]
def Nd (l:List UInt8):Prop:=l=[] \/ l.getLast? = some 10
theorem Nd.tail {x:UInt8} {r:List UInt8} (h:Nd (x :: r)):Nd r:=by
 rcases h with h|h
 ·cases h
 ·cases r with
  | nil=>exact .inl rfl
  | cons y s=>rw[List.getLast?_cons_cons] at h;exact .inr h
theorem lns_app:∀ (p q:List UInt8),Nd p->lns (p++q)=lns p++lns q
 | [],q,_=>rfl
 | x :: r,q,h=>by
  have ih:=lns_app r q h.tail
  show lns (x :: (r++q))=_
  by_cases hx:x=10
  ·rw[lns,if_pos hx,ih,lns,if_pos hx];rfl
  ·have hr:r ≠ []:=fun e=>by
    rcases h with g|g
    ·cases g
    ·rw[e] at g;exact hx (Option.some.inj g)
   rw[lns,if_neg hx,ih,lns,if_neg hx]
   cases e:lns r with
   | nil=>exact absurd (lns_nil.1 e) hr
   | cons a b=>rfl
section
variable {σ : Type} (f : σ -> List UInt8->List UInt8 × σ)
def rnL : σ -> List (List UInt8)->List UInt8
 | _,[]=>[]
 | s,l :: r=>(f s l).1++10 :: rnL (f s l).2 r
def stL : σ -> List (List UInt8) -> σ
 | s,[]=>s
 | s,l :: r=>stL (f s l).2 r
theorem rnL_app:∀ (A B:List (List UInt8)) (s : σ),rnL f s (A++B)=rnL f s A++rnL f (stL f s A) B
 | [],_,_=>rfl
 | l :: r,B,s=>by
  show (f s l).1++10 :: rnL f (f s l).2 (r++B)=((f s l).1++10 :: rnL f (f s l).2 r)++rnL f (stL f (f s l).2 r) B
  rw[rnL_app r B,List.append_assoc,List.cons_append]
theorem stL_app:∀ (A B:List (List UInt8)) (s : σ),stL f s (A++B)=stL f (stL f s A) B
 | [],_,_=>rfl
 | l :: r,B,s=>stL_app r B (f s l).2
def rn (s : σ) (t:List UInt8):List UInt8:=rnL f s (lns t)
theorem rn_begins (s : σ) (t:List UInt8) (n:Nat) (h:Nd (t.take n)):rn f s (t.take n) <+: rn f s t:=by
 have e:=lns_app (t.take n) (t.drop n) h
 rw[List.take_append_drop] at e
 unfold rn
 rw[e,rnL_app]
 exact List.prefix_append _ _
theorem rnL_snoc (s : σ) (A:List (List UInt8)) (l:List UInt8):rnL f s (A ++ [l])=rnL f s A++((f (stL f s A) l).1 ++ [10]):=by
 rw[rnL_app];rfl
end
theorem Nd.step {t:List UInt8} {n:Nat} (h:t[n]? = some 10):Nd (t.take (n+1)):=by
 refine .inr ?_
 rw[List.take_add_one,h]
 simp
theorem Nd.zero (t:List UInt8):Nd (t.take 0):=.inl (by simp)
end Go.Proofs.YtcjdoeclblhaeaaGreatDoor.Rn
namespace Bur
open Go
def spc (c:UInt8):List UInt8->List UInt8->List (List UInt8)
 | cur,[]=>[cur]
 | cur,b :: l=>if b=c then cur :: spc c [] l else spc c (cur ++ [b]) l
theorem spc_hit {c b:UInt8} {cur l:List UInt8} (h:b=c):spc c cur (b :: l)=cur :: spc c [] l:=if_pos h
theorem spc_miss {c b:UInt8} {cur l:List UInt8} (h:b≠c):spc c cur (b :: l)=spc c (cur ++ [b]) l:=if_neg h
theorem spc_cut (c:UInt8):∀ (l cur:List UInt8),spc c cur l=if (cutc c l).2.2=true then (cur++(cutc c l).1) :: spc c [] (cutc c l).2.1 else [cur++(cutc c l).1]
 | [],cur=>by simp[spc,cutc]
 | b :: l,cur=>by
  by_cases h:b=c
  ·rw[spc_hit h];simp[cutc,h]
  ·rw[spc_miss h,spc_cut c l];simp[cutc,h]
theorem spc_yes {c:UInt8} {l:List UInt8} (h:(cutc c l).2.2=true):spc c [] l=(cutc c l).1 :: spc c [] (cutc c l).2.1:=by
 rw[spc_cut,if_pos h];rfl
theorem spc_no {c:UInt8} {l:List UInt8} (h:(cutc c l).2.2=false):spc c [] l=[(cutc c l).1]:=by
 rw[spc_cut,if_neg (by simp[h])];rfl
theorem spc_pos (c:UInt8) (l:List UInt8):0<(spc c [] l).length:=by
 cases h:(cutc c l).2.2
 ·rw[spc_no h];simp
 ·rw[spc_yes h];simp
theorem ext_list (s:ByteArray) (a b:Nat):(s.extract a b).data.toList=(s.data.toList.drop a).take (b - a):=by
 rw[ByteArray.data_extract,Array.toList_extract]
end Bur
namespace Bur
open Go
def lz (b:UInt8):Bool:=decide (97<=b.toNat)&&decide (b.toNat<=122)
def isN (l:List UInt8):Bool:=decide (0<l.length)&&(decide (l.length<=8)&&l.all lz)
theorem isN_ok {l:List UInt8} (h:isN l=true):0<l.length/\l.length<=8 /\ ∀ b∈l,97<=b.toNat/\b.toNat<=122:=by
 simp only [isN,Bool.and_eq_true,decide_eq_true_eq,List.all_eq_true,lz] at h
 exact h
def hxv (b:UInt8):Option Int:=if 48<=b.toNat/\b.toNat<=57 then some ((b.toNat:Int) - 48) else if 97<=b.toNat/\b.toNat<=102 then some ((b.toNat:Int) - 87) else none
def dv (b:UInt8):Option Int:=if 48<=b.toNat/\b.toNat<=57 then some ((b.toNat:Int) - 48) else none
theorem hxv_bd {b:UInt8} {d:Int} (h:hxv b=some d):0<=d/\d<=15:=by
 unfold hxv at h
 split at h
 ·cases h;omega
 ·split at h
  ·cases h;omega
  ·cases h
theorem dv_bd {b:UInt8} {d:Int} (h:dv b=some d):0<=d/\d<=9:=by
 unfold dv at h
 split at h
 ·cases h;omega
 ·cases h
def rx (f:UInt8->Option Int) (base:Int):Int->List UInt8->Option Int
 | n,[]=>some n
 | n,b :: r=>match f b with
  | none=>none
  | some d=>rx f base (n*base+d) r
theorem rx_on {f:UInt8->Option Int} {base n d:Int} {b:UInt8} {r:List UInt8} (h:f b=some d):rx f base n (b :: r)=rx f base (n*base+d) r:=by rw[rx,h]
theorem rx_no {f:UInt8->Option Int} {base n:Int} {b:UInt8} {r:List UInt8} (h:f b=none):rx f base n (b :: r)=none:=by rw[rx,h]
def hd (n:Nat):UInt8:=UInt8.ofNat (if n<10 then 48+n else 87+n)
def hxK:Nat->Nat->List UInt8
 | 0,_=>[]
 | k+1,n=>hxK k (n / 16) ++ [hd (n % 16)]
theorem hxK_len:∀ k n,(hxK k n).length=k
 | 0,_=>rfl
 | k+1,n=>by rw[hxK,List.length_append,hxK_len k];rfl
def hxM (n:Nat):List UInt8:=if n<16 then [hd n] else hxM (n / 16) ++ [hd (n % 16)]
termination_by n
decreasing_by omega
theorem hxM_small {n:Nat} (h:n<16):hxM n=[hd n]:=by rw[hxM,if_pos h]
theorem hxM_big {n:Nat} (h:¬ n<16):hxM n=hxM (n / 16) ++ [hd (n % 16)]:=by rw[hxM,if_neg h]
theorem hxK_zero:∀ k,hxK k 0=List.replicate k 48
 | 0=>rfl
 | k+1=>by rw[hxK,hxK_zero k,List.replicate_succ'];rfl
theorem hx_pad:∀ (k n:Nat),0<k->n<16 ^ k->(hxM n).length<=k/\hxK k n=List.replicate (k - (hxM n).length) 48++hxM n
 | 0,_,h,_=>by omega
 | k+1,n,_,h=>by
  by_cases hn:n<16
  ·rw[hxM_small hn,hxK,show n / 16=0 from by omega,hxK_zero,show n % 16=n from by omega]
   exact⟨by simp,by simp⟩
  ·have hk:0<k:=by
    cases k with
    | zero=>simp at h;omega
    | succ k=>omega
   obtain⟨h1,h2⟩:=hx_pad k (n / 16) hk (by rw[Nat.pow_succ] at h;omega)
   rw[hxM_big hn,hxK,h2,List.length_append]
   refine⟨by simp;omega,?_⟩
   rw[List.append_assoc]
   congr 2
   simp
theorem hxM_pos (n:Nat):0<(hxM n).length:=by
 by_cases hn:n<16
 ·rw[hxM_small hn];simp
 ·rw[hxM_big hn];simp
def d2 (n:Int):List UInt8:=[UInt8.ofNat (48+n.toNat / 10),UInt8.ofNat (48+n.toNat % 10)]
def netK (n:List UInt8):List UInt8:=[110,47]++n
def adrK (n:List UInt8) (a:Int):List UInt8:=[97,47]++n ++ [47]++hxK 8 a.toNat
def pfxK (n:List UInt8) (a l:Int):List UInt8:=[112,47]++n ++ [47]++hxK 8 a.toNat++d2 l
def pkN (l:List UInt8):List UInt8:=(cutc 47 (l.drop 2)).1
def pkD (l:List UInt8):List UInt8:=(cutc 47 (l.drop 2)).2.1
def kcB (c:UInt8) (l:List UInt8):Bool:=decide (l.take 2=[c,47])&&((cutc 47 (l.drop 2)).2.2&&isN (pkN l))
def pxD (d:List UInt8):Option (Int×Int):=match rx hxv 16 0 (d.take 8),rx dv 10 0 (d.drop 8) with
 | some a,some n=>if fault a n=0 then some (a,n) else none
 | _,_=>none
def pkR (l:List UInt8):Option (Int×Int):=if kcB 112 l=true/\(pkD l).length=10 then pxD (pkD l) else none
def raK (k:List UInt8):Option Int:=if kcB 97 k=true/\(pkD k).length=8 then rx hxv 16 0 (pkD k) else none
def kd0:Int×List UInt8×(Int×Int)×Int:=(0,[],(0,0),0)
def kd:List (List UInt8)->Int×List UInt8×(Int×Int)×Int
 | [a,n]=>if isN n=true/\a=[110] then (1,n,(0,0),0) else kd0
 | [a,n,d]=>if isN n=true then
   (if a=[97] then (if d.length=8 then (match rx hxv 16 0 d with
     | some v=>(3,n,(0,0),v)
     | none=>kd0) else kd0)
    else if a=[112]/\d.length=10 then (match pxD d with
     | some p=>(2,n,p,0)
     | none=>kd0) else kd0) else kd0
 | _=>kd0
end Bur
namespace Vs
open Go
def txt (l:List UInt8):ByteArray:=⟨l.toArray⟩
theorem txt_size (l:List UInt8):(txt l).size=l.length:=by simp[txt,ByteArray.size]
def kN (n:ByteArray):ByteArray:=txt (Bur.netK n.data.toList)
def kA (n:ByteArray) (a:Int):ByteArray:=txt (Bur.adrK n.data.toList a)
def kP (n:ByteArray) (p:Bur.Sp):ByteArray:=txt (Bur.pfxK n.data.toList p.1 p.2)
def loK (c:UInt8) (n:ByteArray):ByteArray:=txt ([c,47]++n.data.toList ++ [47])
def heK (c:UInt8) (n:ByteArray):ByteArray:=txt ([c,47]++n.data.toList ++ [48])
structure Cl where
 what:Int
 nm:ByteArray
 p:Bur.Sp
 len:Int
 ad:Int
 ow:ByteArray
structure An where
 p:Bur.Sp
 ad:Int
 ow:ByteArray
 l:List Bur.Sp
def an0:An:=⟨(0,0),0,ByteArray.empty,[]⟩
inductive Pg where
 | ret (a:An) (f:Int)
 | get (k:ByteArray) (K:ByteArray->Int->Pg)
 | rng (lo hi:ByteArray) (K:List Pr->Int->Pg)
 | chg (c:Chg) (K:Int->Pg)
def runA:Pg->Dk->Int->An
 | .ret a _,_,_=>a
 | .get k K,d,i=>runA (K (dgS d i k) (dgF d i k)) (dgD d i k) i
 | .rng lo hi K,d,i=>runA (K (drS d i lo hi) (drF d i)) (drD d i lo hi) i
 | .chg c K,d,i=>runA (K (dcF d i c)) (dcD d i c) i
def runF:Pg->Dk->Int->Int
 | .ret _ f,_,_=>f
 | .get k K,d,i=>runF (K (dgS d i k) (dgF d i k)) (dgD d i k) i
 | .rng lo hi K,d,i=>runF (K (drS d i lo hi) (drF d i)) (drD d i lo hi) i
 | .chg c K,d,i=>runF (K (dcF d i c)) (dcD d i c) i
def runD:Pg->Dk->Int->Dk
 | .ret _ _,d,_=>d
 | .get k K,d,i=>runD (K (dgS d i k) (dgF d i k)) (dgD d i k) i
 | .rng lo hi K,d,i=>runD (K (drS d i lo hi) (drF d i)) (drD d i lo hi) i
 | .chg c K,d,i=>runD (K (dcF d i c)) (dcD d i c) i
def clF (c:Cl):Int:=
 if c.what<1 \/ 9<c.what then 1 else if Bur.isN c.nm.data.toList=false then 5
 else if (c.what=1 \/ c.what=2 \/ c.what=4 \/ c.what=6 \/ c.what=7)/\Bur.isN c.ow.data.toList=false then 5
 else if c.what=2 \/ c.what=3 \/ c.what=6 \/ c.what=7 then Bur.fault c.p.1 c.p.2
 else if c.what=4 \/ c.what=5 \/ c.what=9 then Bur.fault c.ad 32 else 0
abbrev Lot:=Bur.Sp×ByteArray
def lots (l:List Pr):List Lot:=l.filterMap fun p=>(Bur.pkR p.1.data.toList).map fun s=>(s,p.2)
def plcd (l:List Pr):List Int:=l.filterMap fun p=>Bur.raK p.1.data.toList
def inn (p:Bur.Sp) (l:List Lot):List Bur.Sp:=(l.map Prod.fst).filter fun q => !(decide (q=p) || !Bur.witB q.1 q.2 p.1 p.2)
def ins (p:Bur.Sp) (u:List Int):List Int:=u.filter fun a=>Bur.witB a 32 p.1 p.2
def hav (l:List Lot) (a:Int):List Lot:=l.filter fun o=>Bur.witB a 32 o.1.1 o.1.2
def tkF (p:Bur.Sp) (l:List Lot) (u:List Int):Bool:=decide (inn p l ≠ []) || (ins p u).any fun a=>decide ((hav l a).length<2)
def err (f:Int):Pg:=.ret an0 f
def asks (k:ByteArray) (K:ByteArray->Bool->Pg):Pg:=.get k fun v f=>if f=4 then K ByteArray.empty false else if f=0 then K v true else err f
def allL (n:ByteArray) (K:List Lot->Pg):Pg:=.rng (loK 112 n) (heK 112 n) fun l f=>if f=0 then K (lots l) else err f
def allA (n:ByteArray) (K:List Int->Pg):Pg:=.rng (loK 97 n) (heK 97 n) fun l f=>if f=0 then K (plcd l) else err f
def puts (k v:ByteArray) (a:An):Pg:=.chg ⟨k,v,false⟩ fun f=>if f=0 then .ret a 0 else err f
def drops (k:ByteArray):Pg:=.chg ⟨k,ByteArray.empty,true⟩ fun f=>err f
def pNet (c:Cl) (is:Bool):Pg:=if is=true then err 6 else puts (kN c.nm) c.ow an0
def pAdd (c:Cl):Pg:=asks (kP c.nm c.p) fun _ is=>if is=true then err 6 else puts (kP c.nm c.p) c.ow an0
def pTake (c:Cl):Pg:=asks (kP c.nm c.p) fun _ is=>if is=true then allL c.nm fun l=>allA c.nm fun u=>if tkF c.p l u=true then err 7 else drops (kP c.nm c.p) else err 4
def pPlace (c:Cl):Pg:=allL c.nm fun l=>asks (kA c.nm c.ad) fun _ is=>if hav l c.ad=[] then err 7 else if is=true then err 6 else puts (kA c.nm c.ad) c.ow an0
def pLeave (c:Cl):Pg:=asks (kA c.nm c.ad) fun _ is=>if is=true then drops (kA c.nm c.ad) else err 4
def allW (c:Cl) (K:List Lot->Pg):Pg:=allL c.nm fun l=>if c.p∈l.map Prod.fst then K l else err 4
def pNextP (c:Cl):Pg:=allW c fun l=>if Bur.fsF c.p (inn c.p l) c.len=0 then
 (if Bur.fsS c.p (inn c.p l) c.len=c.p then err 6 else puts (kP c.nm (Bur.fsS c.p (inn c.p l) c.len)) c.ow ⟨Bur.fsS c.p (inn c.p l) c.len,0,ByteArray.empty,[]⟩) else err (Bur.fsF c.p (inn c.p l) c.len)
def pNextA (c:Cl):Pg:=allW c fun _=>allA c.nm fun u=>if Bur.nxF c.p (ins c.p u)=0 then puts (kA c.nm (Bur.nxS c.p (ins c.p u))) c.ow ⟨(0,0),Bur.nxS c.p (ins c.p u),ByteArray.empty,[]⟩ else err (Bur.nxF c.p (ins c.p u))
def pList (c:Cl):Pg:=allL c.nm fun l=>.ret ⟨(0,0),0,ByteArray.empty,l.map Prod.fst⟩ 0
def pWho (c:Cl):Pg:=asks (kA c.nm c.ad) fun v is=>if is=true then .ret ⟨(0,0),0,v,[]⟩ 0 else allL c.nm fun l=>match (hav l c.ad).getLast? with
 | none=>err 4
 | some o=>.ret ⟨(0,0),0,o.2,[]⟩ 0
def pWork (c:Cl):Pg:=asks (kN c.nm) fun _ is=>
 if c.what=1 then pNet c is else if is=false then err 4
 else if c.what=2 then pAdd c else if c.what=3 then pTake c else if c.what=4 then pPlace c else if c.what=5 then pLeave c
 else if c.what=6 then pNextP c else if c.what=7 then pNextA c else if c.what=8 then pList c else pWho c
def doP (c:Cl):Pg:=if clF c=0 then pWork c else err (clF c)
end Vs
namespace Go.Proofs.YtcjdoeclblhaeaaGreatDoor.Pa
def I6 (i:Int):Prop := -9223372036854775808<=i/\i<=9223372036854775807
end Go.Proofs.YtcjdoeclblhaeaaGreatDoor.Pa
namespace Bur
open Go
def nkB (l:List UInt8):Bool:=decide (l.take 2=[110,47])&&isN (l.drop 2)
abbrev En:=Int×List UInt8×Sp
def enK (l:List UInt8):Option En:=if nkB l=true then some (1,l.drop 2,(0,0)) else match pkR l with
 | some p=>some (2,pkN l,p)
 | none=>match raK l with
  | some a=>some (3,pkN l,(a,32))
  | none=>none
def ek (p:Vs.Pr):Option En:=enK p.1.data.toList
def prv (L:List Vs.Pr) (i:Nat):Option ByteArray:=if i=0 then none else (L[i - 1]?).map Prod.fst
end Bur
