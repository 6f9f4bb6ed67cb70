/- -/
import Derived.Lib.IndexMore
import Derived.Lib.ItoaNum
import Derived.Test.YtmghmpclmphccaaGreatDoorGVsMath
import Derived.Test.YtmghmpclmphccaaGreatDoorGCvMath
namespace Bur
open Go
def ahH (most:Int):Int->List UInt8->Option Int
 | n,[]=>some n
 | n,c :: r=>if 48<=c.toNat/\c.toNat<=57 then (if most<10*n+(c.toNat - 48) then none else ahH most (10*n+(c.toNat - 48)) r) else none
def rd (most:Int)(l:List UInt8):Option Int:=if l=[] \/ (l.head? = some 48/\l ≠ [48]) then none else ahH most 0 l
def dK (c:UInt8):List UInt8->List UInt8×List UInt8×Bool
 | []=>([],[],false)
 | b :: l=>if b=c then ([],l,true) else (b :: (dK c l).1,(dK c l).2.1,(dK c l).2.2)
theorem Xx (c:UInt8):∀l:List UInt8,Lib.cut l [c]=dK c l
 | []=>by simp[Lib.cut,Lib.index,dK]
 | b :: l=>by
  have ih:=Xx c l
  unfold Lib.cut at ih ⊢
  simp only [dK]
  by_cases h:b=c
  ·subst h
   simp[Lib.index]
  ·have h2:([c]:List UInt8).isPrefixOf (b :: l)=false:=by
    show (c==b&&_)=false
    rw[beq_eq_false_iff_ne.2 (Ne.symm h)];rfl
   rw[if_neg h,<- ih]
   simp only [Lib.index,h2]
   by_cases h3:Lib.index l [c] = -1
   ·simp[h3]
   ·have h4:0<=Lib.index l [c]:=by
     have:=ih
     exact Int.not_lt.1 (fun hn=>h3 (by have:=Lib.index_ge l [c];omega))
    have h5:(Lib.index l [c] == -1)=false:=by simp[h3]
    rw[if_pos h4]
    simp only [h5]
    have e:(Lib.index l [c]+1).toNat=(Lib.index l [c]).toNat+1:=by omega
    simp[e,show 0<=Lib.index l [c]+1 from by omega]
theorem Ej (c:UInt8):∀l:List UInt8,(dK c l).1.length<=l.length/\(dK c l).2.1.length<=l.length
 | []=>by simp[dK]
 | b :: l=>by
  have:=Ej c l
  simp only [dK]
  split
  ·simp
  ·simp;omega
theorem P7 {c:UInt8}:∀(x y:List UInt8),c ∉ x->dK c (x++c :: y)=(x,y,true)
 | [],y,_=>by simp[dK]
 | b :: x,y,h=>by
  simp only [List.mem_cons,not_or] at h
  have:=P7 x y h.2
  simp only [List.cons_append,dK]
  rw[if_neg (Ne.symm h.1),this]
theorem ext_list (s:ByteArray)(a b:Nat):(s.extract a b).data.toList=(s.data.toList.drop a).take (b - a):=by
 rw[ByteArray.data_extract,Array.toList_extract]
def lz (b:UInt8):Bool:=decide (97<=b.toNat)&&decide (b.toNat<=122)
def isN (l:List UInt8):Bool:=decide (0<l.length)&&(decide (l.length<=8)&&l.all lz)
theorem Aa {l:List UInt8}(h:isN l=true):0<l.length/\l.length<=8 /\ ∀b∈l,97<=b.toNat/\b.toNat<=122:=by
 simp only [isN,Bool.and_eq_true,decide_eq_true_eq,List.all_eq_true,lz] at h
 exact h
theorem Yd {l:List UInt8}(h:isN l=true):(47:UInt8) ∉ l:=fun hm=>by
 have:=((Aa h).2.2 47 hm).1
 exact absurd this (by decide)
def hxv (b:UInt8):Option Int:=if 48<=b.toNat/\b.toNat<=57 then some ((b.toNat:Int) - 48) else if 97<=b.toNat/\b.toNat<=102 then some ((b.toNat:Int) - 87) else none
def dv (b:UInt8):Option Int:=if 48<=b.toNat/\b.toNat<=57 then some ((b.toNat:Int) - 48) else none
theorem RI {b:UInt8}{d:Int}(h:hxv b=some d):0<=d/\d<=15:=by
 unfold hxv at h
 split at h
 ·cases h;omega
 ·split at h
  ·cases h;omega
  ·cases h
theorem adH {b:UInt8}{d:Int}(h:dv b=some d):0<=d/\d<=9:=by
 unfold dv at h
 split at h
 ·cases h;omega
 ·cases h
def rx (f:UInt8->Option Int)(base:Int):Int->List UInt8->Option Int
 | n,[]=>some n
 | n,b :: r=>match f b with
  | none=>none
  | some d=>rx f base (n*base+d) r
theorem EI {f:UInt8->Option Int}{base n d:Int}{b:UInt8}{r:List UInt8}(h:f b=some d):rx f base n (b :: r)=rx f base (n*base+d) r:=by rw[rx,h]
theorem KX {f:UInt8->Option Int}{base n:Int}{b:UInt8}{r:List UInt8}(h:f b=none):rx f base n (b :: r)=none:=by rw[rx,h]
theorem YU {f:UInt8->Option Int}{base:Int}:∀(l m:List UInt8) (n:Int),rx f base n (l++m)=(rx f base n l).bind (fun k=>rx f base k m)
 | [],m,n=>rfl
 | b :: r,m,n=>by
  cases e:f b with
  | none=>rw[List.cons_append,KX e,KX e];rfl
  | some d=>rw[List.cons_append,EI e,EI e,YU r m]
theorem adR {f:UInt8->Option Int}{base:Int}(hb:0<base)(hf:∀b d,f b=some d->0<=d/\d<base):∀(l:List UInt8) (n m:Int),0<=n->rx f base n l=some m->0<=m/\m<(n+1)*base ^ l.length
 | [],n,m,h0,h=>by cases h;simp;omega
 | b :: r,n,m,h0,h=>by
  cases e:f b with
  | none=>rw[KX e] at h;cases h
  | some d=>
   rw[EI e] at h
   obtain⟨d0,d1⟩:=hf b d e
   have hnb:0<=n*base:=Int.mul_nonneg h0 (by omega)
   obtain⟨a1,a2⟩:=adR hb hf r _ m (by omega) h
   refine⟨a1,?_⟩
   have h1:(n*base+d+1)*base ^ r.length<=((n+1)*base)*base ^ r.length:=Int.mul_le_mul_of_nonneg_right (by rw[Int.add_mul];omega) (Int.le_of_lt (Int.pow_pos hb))
   rw[List.length_cons,Int.pow_succ,Int.mul_comm (base ^ r.length) base,<- Int.mul_assoc]
   omega
def hd (n:Nat):UInt8:=UInt8.ofNat (if n<10 then 48+n else 87+n)
def hxK:Nat->Nat->List UInt8
 | 0,_=>[]
 | k+1,n=>hxK k (n / 16) ++ [hd (n % 16)]
theorem qR:∀k n,(hxK k n).length=k
 | 0,_=>rfl
 | k+1,n=>by rw[hxK,List.length_append,qR k];rfl
theorem aey:∀n:Fin 16,hxv (hd n.val)=some (n.val:Int)/\hd n.val≠47:=by decide +kernel
theorem afi {n:Nat}(h:n<16):hxv (hd n)=some (n:Int):=(aey ⟨n,h⟩).1
theorem Zj:∀(k n:Nat),rx hxv 16 0 (hxK k n)=some ((n % 16 ^ k:Nat):Int)
 | 0,n=>by simp[hxK,rx,Nat.mod_one]
 | k+1,n=>by
  rw[hxK,YU,Zj k (n / 16)]
  show rx hxv 16 _ [hd (n % 16)]=_
  rw[EI (afi (Nat.mod_lt _ (by decide)))]
  show some _=some _
  congr 1
  have h1:n % 16 ^ (k+1)=n % 16+16*(n / 16 % 16 ^ k):=by rw[Nat.pow_succ,Nat.mul_comm,Nat.mod_mul]
  omega
def hxM (n:Nat):List UInt8:=if n<16 then [hd n] else hxM (n / 16) ++ [hd (n % 16)]
termination_by n
decreasing_by omega
theorem zX {n:Nat}(h:n<16):hxM n=[hd n]:=by rw[hxM,if_pos h]
theorem Nr {n:Nat}(h:¬n<16):hxM n=hxM (n / 16) ++ [hd (n % 16)]:=by rw[hxM,if_neg h]
theorem OW:∀k,hxK k 0=List.replicate k 48
 | 0=>rfl
 | k+1=>by rw[hxK,OW k,List.replicate_succ'];rfl
theorem SB:∀(k n:Nat),0<k->n<16 ^ k->(hxM n).length<=k/\hxK k n=List.replicate (k - (hxM n).length) 48++hxM n
 | 0,_,h,_=>by omega
 | k+1,n,_,h=>by
  by_cases hn:n<16
  ·rw[zX hn,hxK,show n / 16=0 from by omega,OW,show n % 16=n from by omega]
   exact⟨by simp,by simp⟩
  ·have hk:0<k:=by
    cases k with
    | zero=>simp at h;omega
    | succ k=>omega
   obtain⟨h1,h2⟩:=SB k (n / 16) hk (by rw[Nat.pow_succ] at h;omega)
   rw[Nr hn,hxK,h2,List.length_append]
   refine⟨by simp;omega,?_⟩
   rw[List.append_assoc]
   congr 2
   simp
theorem U2 (n:Nat):0<(hxM n).length:=by
 by_cases hn:n<16
 ·rw[zX hn];simp
 ·rw[Nr hn];simp
def d2 (n:Int):List UInt8:=[UInt8.ofNat (48+n.toNat / 10),UInt8.ofNat (48+n.toNat % 10)]
theorem agE:∀n:Fin 100,rx dv 10 0 (d2 (n.val:Int))=some (n.val:Int):=by decide +kernel
theorem ahx {n:Int}(h0:0<=n)(h1:n<100):rx dv 10 0 (d2 n)=some n:=by
 have:=agE ⟨n.toNat,by omega⟩
 rwa [show ((⟨n.toNat,by omega⟩:Fin 100).val:Int)=n from Int.toNat_of_nonneg h0] at this
def xZ (n:List UInt8):List UInt8:=[110,47]++n
def D6 (n:List UInt8)(a:Int):List UInt8:=[97,47]++n ++ [47]++hxK 8 a.toNat
def rG (n:List UInt8)(a l:Int):List UInt8:=[112,47]++n ++ [47]++hxK 8 a.toNat++d2 l
def pkN (l:List UInt8):List UInt8:=(dK 47 (l.drop 2)).1
def pkD (l:List UInt8):List UInt8:=(dK 47 (l.drop 2)).2.1
def kcB (c:UInt8)(l:List UInt8):Bool:=decide (l.take 2=[c,47])&&((dK 47 (l.drop 2)).2.2&&isN (pkN l))
def pxD (d:List UInt8):Option (Int×Int):=match rx hxv 16 0 (d.take 8),rx dv 10 0 (d.drop 8) with
 | some a,some n=>if fault a n=0 then some (a,n) else none
 | _,_=>none
def pkR (l:List UInt8):Option (Int×Int):=if kcB 112 l=true/\(pkD l).length=10 then pxD (pkD l) else none
def raK (k:List UInt8):Option Int:=if kcB 97 k=true/\(pkD k).length=8 then rx hxv 16 0 (pkD k) else none
def kd0:Int×List UInt8×(Int×Int)×Int:=(0,[],(0,0),0)
def kd:List (List UInt8)->Int×List UInt8×(Int×Int)×Int
 | [a,n]=>if isN n=true/\a=[110] then (1,n,(0,0),0) else kd0
 | [a,n,d]=>if isN n=true then
   (if a=[97] then (if d.length=8 then (match rx hxv 16 0 d with
     | some v=>(3,n,(0,0),v)
     | none=>kd0) else kd0)
    else if a=[112]/\d.length=10 then (match pxD d with
     | some p=>(2,n,p,0)
     | none=>kd0) else kd0) else kd0
 | _=>kd0
theorem zY (c:UInt8):∀l:List UInt8,(dK c l).2.2=true->l=(dK c l).1++c :: (dK c l).2.1
 | [],h=>by simp[dK] at h
 | b :: l,h=>by
  unfold dK at h ⊢
  split
  ·rename_i e;rw[e];rfl
  ·rename_i e
   rw[if_neg e] at h
   have:=zY c l h
   simp only [List.cons_append]
   rw[<- this]
theorem aaS {n:List UInt8}{a l:Int}(hn:isN n=true)(hf:fault a l=0):pkR (rG n a l)=some (a,l)/\pkN (rG n a l)=n:=by
 obtain⟨l0,l1,a0,a1,_⟩:=bn hf
 have e0:rG n a l=112 :: 47 :: (n++47 :: (hxK 8 a.toNat++d2 l)):=by simp[rG]
 have hc:dK 47 ((rG n a l).drop 2)=(n,hxK 8 a.toNat++d2 l,true):=by rw[e0];exact P7 _ _ (Yd hn)
 have eN:pkN (rG n a l)=n:=by unfold pkN;rw[hc]
 have eD:pkD (rG n a l)=hxK 8 a.toNat++d2 l:=by unfold pkD;rw[hc]
 have hl8:=qR 8 a.toNat
 refine⟨?_,eN⟩
 unfold pkR
 rw[if_pos ⟨by unfold kcB;rw[hc,eN,hn,e0];rfl,by rw[eD,List.length_append,hl8];rfl⟩,eD]
 unfold pxD
 rw[List.take_append_of_le_length (by omega),List.drop_append_of_le_length (by omega),List.take_of_length_le (by omega),List.drop_of_length_le (by omega),List.nil_append,Zj,ahx l0 (by omega),show a.toNat % 16 ^ 8=a.toNat from Nat.mod_eq_of_lt (by omega),Int.toNat_of_nonneg a0]
 simp only
 rw[if_pos hf]
end Bur
namespace Vs
open Go
def txt (l:List UInt8):ByteArray:=⟨l.toArray⟩
theorem gI (l:List UInt8):(txt l).data.toList=l:=by simp[txt]
theorem zS (l:List UInt8):(txt l).size=l.length:=by simp[txt,ByteArray.size]
def kN (n:ByteArray):ByteArray:=txt (Bur.xZ n.data.toList)
def kA (n:ByteArray)(a:Int):ByteArray:=txt (Bur.D6 n.data.toList a)
def kP (n:ByteArray)(p:Bur.Sp):ByteArray:=txt (Bur.rG n.data.toList p.1 p.2)
def loK (c:UInt8)(n:ByteArray):ByteArray:=txt ([c,47]++n.data.toList ++ [47])
def heK (c:UInt8)(n:ByteArray):ByteArray:=txt ([c,47]++n.data.toList ++ [48])
structure Cl where
 what:Int
 nm:ByteArray
 p:Bur.Sp
 len:Int
 ad:Int
 ow:ByteArray
structure An where
 p:Bur.Sp
 ad:Int
 ow:ByteArray
 l:List Bur.Sp
def an0:An:=⟨(0,0),0,ByteArray.empty,[]⟩
inductive Pg where
 | ret (a:An) (f:Int)
 | get (k:ByteArray) (K:ByteArray->Int->Pg)
 | rng (lo hi:ByteArray) (K:List Pr->Int->Pg)
 | chg (c:Chg) (K:Int->Pg)
def aI:Pg->Dk->Int->An
 | .ret a _,_,_=>a
 | .get k K,d,i=>aI (K (dgS d i k) (dgF d i k)) (dgD d i k) i
 | .rng lo hi K,d,i=>aI (K (drS d i lo hi) (drF d i)) (drD d i lo hi) i
 | .chg c K,d,i=>aI (K (dcF d i c)) (dcD d i c) i
def aF:Pg->Dk->Int->Int
 | .ret _ f,_,_=>f
 | .get k K,d,i=>aF (K (dgS d i k) (dgF d i k)) (dgD d i k) i
 | .rng lo hi K,d,i=>aF (K (drS d i lo hi) (drF d i)) (drD d i lo hi) i
 | .chg c K,d,i=>aF (K (dcF d i c)) (dcD d i c) i
def aH:Pg->Dk->Int->Dk
 | .ret _ _,d,_=>d
 | .get k K,d,i=>aH (K (dgS d i k) (dgF d i k)) (dgD d i k) i
 | .rng lo hi K,d,i=>aH (K (drS d i lo hi) (drF d i)) (drD d i lo hi) i
 | .chg c K,d,i=>aH (K (dcF d i c)) (dcD d i c) i
def clF (c:Cl):Int:=
 if c.what<1 \/ 9<c.what then 1 else if Bur.isN c.nm.data.toList=false then 5
 else if (c.what=1 \/ c.what=2 \/ c.what=4 \/ c.what=6 \/ c.what=7)/\Bur.isN c.ow.data.toList=false then 5
 else if c.what=2 \/ c.what=3 \/ c.what=6 \/ c.what=7 then Bur.fault c.p.1 c.p.2
 else if c.what=4 \/ c.what=5 \/ c.what=9 then Bur.fault c.ad 32 else 0
abbrev Lot:=Bur.Sp×ByteArray
def lots (l:List Pr):List Lot:=l.filterMap fun p=>(Bur.pkR p.1.data.toList).map fun s=>(s,p.2)
def fG (l:List Pr):List Int:=l.filterMap fun p=>Bur.raK p.1.data.toList
def inn (p:Bur.Sp)(l:List Lot):List Bur.Sp:=(l.map Prod.fst).filter fun q => !(decide (q=p) || !Bur.dQ q.1 q.2 p.1 p.2)
def ins (p:Bur.Sp)(u:List Int):List Int:=u.filter fun a=>Bur.dQ a 32 p.1 p.2
def hav (l:List Lot)(a:Int):List Lot:=l.filter fun o=>Bur.dQ a 32 o.1.1 o.1.2
def tkF (p:Bur.Sp)(l:List Lot)(u:List Int):Bool:=decide (inn p l ≠ []) || (ins p u).any fun a=>decide ((hav l a).length<2)
def err (f:Int):Pg:=.ret an0 f
def asks (k:ByteArray)(K:ByteArray->Bool->Pg):Pg:=.get k fun v f=>if f=4 then K ByteArray.empty false else if f=0 then K v true else err f
def allL (n:ByteArray)(K:List Lot->Pg):Pg:=.rng (loK 112 n) (heK 112 n) fun l f=>if f=0 then K (lots l) else err f
def allA (n:ByteArray)(K:List Int->Pg):Pg:=.rng (loK 97 n) (heK 97 n) fun l f=>if f=0 then K (fG l) else err f
def puts (k v:ByteArray)(a:An):Pg:=.chg ⟨k,v,false⟩ fun f=>if f=0 then .ret a 0 else err f
def drops (k:ByteArray):Pg:=.chg ⟨k,ByteArray.empty,true⟩ fun f=>err f
def XY (c:Cl)(is:Bool):Pg:=if is=true then err 6 else puts (kN c.nm) c.ow an0
def rF (c:Cl):Pg:=asks (kP c.nm c.p) fun _ is=>if is=true then err 6 else puts (kP c.nm c.p) c.ow an0
def cO (c:Cl):Pg:=asks (kP c.nm c.p) fun _ is=>if is=true then allL c.nm fun l=>allA c.nm fun u=>if tkF c.p l u=true then err 7 else drops (kP c.nm c.p) else err 4
def bU (c:Cl):Pg:=allL c.nm fun l=>asks (kA c.nm c.ad) fun _ is=>if hav l c.ad=[] then err 7 else if is=true then err 6 else puts (kA c.nm c.ad) c.ow an0
def dU (c:Cl):Pg:=asks (kA c.nm c.ad) fun _ is=>if is=true then drops (kA c.nm c.ad) else err 4
def rQ (c:Cl)(K:List Lot->Pg):Pg:=allL c.nm fun l=>if c.p∈l.map Prod.fst then K l else err 4
def aV (c:Cl):Pg:=rQ c fun l=>if Bur.fsF c.p (inn c.p l) c.len=0 then
 (if Bur.fsS c.p (inn c.p l) c.len=c.p then err 6 else puts (kP c.nm (Bur.fsS c.p (inn c.p l) c.len)) c.ow ⟨Bur.fsS c.p (inn c.p l) c.len,0,ByteArray.empty,[]⟩) else err (Bur.fsF c.p (inn c.p l) c.len)
def aX (c:Cl):Pg:=rQ c fun _=>allA c.nm fun u=>if Bur.nxF c.p (ins c.p u)=0 then puts (kA c.nm (Bur.nxS c.p (ins c.p u))) c.ow ⟨(0,0),Bur.nxS c.p (ins c.p u),ByteArray.empty,[]⟩ else err (Bur.nxF c.p (ins c.p u))
def fE (c:Cl):Pg:=allL c.nm fun l=>.ret ⟨(0,0),0,ByteArray.empty,l.map Prod.fst⟩ 0
def fH (c:Cl):Pg:=asks (kA c.nm c.ad) fun v is=>if is=true then .ret ⟨(0,0),0,v,[]⟩ 0 else allL c.nm fun l=>match (hav l c.ad).getLast? with
 | none=>err 4
 | some o=>.ret ⟨(0,0),0,o.2,[]⟩ 0
def zK (c:Cl):Pg:=asks (kN c.nm) fun _ is=>
 if c.what=1 then XY c is else if is=false then err 4
 else if c.what=2 then rF c else if c.what=3 then cO c else if c.what=4 then bU c else if c.what=5 then dU c
 else if c.what=6 then aV c else if c.what=7 then aX c else if c.what=8 then fE c else fH c
def doP (c:Cl):Pg:=if clF c=0 then zK c else err (clF c)
end Vs
namespace Go.Proofs.YtmghmpclmphccaaGreatDoor.Pa
def I6 (i:Int):Prop := -9223372036854775808<=i/\i<=9223372036854775807
end Go.Proofs.YtmghmpclmphccaaGreatDoor.Pa
namespace Bur
open Go
def nkB (l:List UInt8):Bool:=decide (l.take 2=[110,47])&&isN (l.drop 2)
abbrev En:=Int×List UInt8×Sp
def enK (l:List UInt8):Option En:=if nkB l=true then some (1,l.drop 2,(0,0)) else match pkR l with
 | some p=>some (2,pkN l,p)
 | none=>match raK l with
  | some a=>some (3,pkN l,(a,32))
  | none=>none
def kdE:Option En->Int×List UInt8×Sp×Int
 | none=>kd0
 | some e=>if e.1=3 then (3,e.2.1,(0,0),e.2.2.1) else (e.1,e.2.1,e.2.2,0)
theorem afM {l:List UInt8}(h:kcB 97 l=false):raK l=none:=by
 unfold raK
 rw[if_neg (fun q=>by rw[h] at q;exact absurd q.1 (by decide))]
theorem U3 {l:List UInt8}(h:kcB 112 l=false):pkR l=none:=by
 unfold pkR
 rw[if_neg (fun q=>by rw[h] at q;exact absurd q.1 (by decide))]
def upP (a k:Int):Sp:=(a - a % sz k,k)
theorem aan (a:Int):upP a 32=(a,32):=by
 unfold upP
 rw[Yu,Int.emod_one,Int.sub_zero]
theorem aaT (a k:Int):(a - a % sz k) % sz k=0:=by
 have:=Int.emod_add_mul_ediv a (sz k)
 rw[show a - a % sz k=sz k*(a / sz k) from by omega]
 exact Int.mul_emod_right _ _
theorem QS {a k:Int}(ha:isA a=true)(h0:0<=k)(h1:k<=32):fault (upP a k).1 (upP a k).2=0:=by
 have hp:=bJ k
 obtain⟨a0,a1⟩:=eX ha
 have hm:=Int.emod_nonneg a (Int.ne_of_gt hp)
 have hq:=Int.emod_add_mul_ediv a (sz k)
 have hd:0<=sz k*(a / sz k):=Int.mul_nonneg (by omega) (Int.ediv_nonneg a0 (by omega))
 exact PS h0 h1 (qV (by show 0<=a - a % sz k;omega) (by show a - a % sz k<=_;omega)) (aaT a k)
theorem aeF {a k:Int}(ha:isA a=true)(h0:0<k)(h1:k<=32):upF (upP a k).1 (upP a k).2=0/\(upA (upP a k).1 (upP a k).2,upL (upP a k).1 (upP a k).2)=upP a (k - 1):=by
 have hf:=QS ha (by omega) h1
 have hF:upF (upP a k).1 (upP a k).2=0:=by
  unfold upF
  rw[if_neg (fun q=>by have:k=0:=q.2;omega)]
  exact hf
 refine⟨hF,?_⟩
 unfold upA upL
 rw[if_pos hF,if_pos hF]
 show ((a - a % sz k) - (a - a % sz k) % sz (k - 1),k - 1)=(a - a % sz (k - 1),k - 1)
 congr 1
 have h2:=aa1 (k - 1) (by omega)
 rw[show k - 1+1=k from by omega] at h2
 have hp:=bJ k
 have e1:=Int.emod_add_mul_ediv a (sz (k - 1))
 have e2:=Int.emod_add_mul_ediv (a - a % sz k) (sz (k - 1))
 have e3:=Int.emod_add_mul_ediv a (sz k)
 have e4:a / sz (k - 1)=(a - a % sz k) / sz (k - 1):=by
  rw[show a - a % sz k=sz k*(a / sz k) from by omega,h2,Int.mul_comm 2 (sz k),Int.mul_ediv_mul_of_pos _ _ hp,<- Int.ediv_ediv_of_nonneg (Int.le_of_lt hp)]
 rw[e4] at e1
 omega
theorem aag (a:Int):upF (upP a 0).1 (upP a 0).2≠0:=by
 unfold upF
 by_cases h:fault (upP a 0).1 (upP a 0).2=0
 ·rw[if_pos ⟨h,rfl⟩];decide
 ·rw[if_neg (fun q=>h q.1)];exact h
theorem Ub {a:Int}{q:Sp}(hq:fault q.1 q.2=0):hs q a=true↔q=upP a q.2:=by
 obtain⟨l0,l1,a0,a1,hz⟩:=bn hq
 have hp:=bJ q.2
 rw[WZ]
 have e1:=Int.emod_add_mul_ediv a (sz q.2)
 have b1:=Int.emod_lt_of_pos a hp
 have b0:=Int.emod_nonneg a (Int.ne_of_gt hp)
 constructor
 ·rintro ⟨h1,h2⟩
  have hd:(a - q.1) % sz q.2=a % sz q.2:=by rw[Int.sub_emod,hz,Int.sub_zero,Int.emod_emod]
  rw[Int.emod_eq_of_lt (by omega) (by omega)] at hd
  exact Prod.ext (by show q.1=a - a % sz q.2;omega) rfl
 ·intro h
  have:=congrArg Prod.fst h
  have:q.1=a - a % sz q.2:=this
  omega
def ek (p:Vs.Pr):Option En:=enK p.1.data.toList
def isE (k:Int)(n:List UInt8)(f:Sp->Bool):Option En->Bool
 | none=>false
 | some e=>decide (e.1=k)&&(decide (e.2.1=n)&&f e.2.2)
def xY (L:List Vs.Pr)(n:List UInt8):Bool:=L.any fun p=>isE 1 n (fun _=>true) (ek p)
def qF (L:List Vs.Pr)(n:List UInt8)(q:Sp):Bool:=L.any fun p=>isE 2 n (fun x=>decide (x=q)) (ek p)
def Pj (L:List Vs.Pr)(n:List UInt8)(a:Int):Bool:=L.any fun p=>isE 2 n (fun x=>hs x a) (ek p)
theorem qP {k:Int}{n:List UInt8}{f:Sp->Bool}{o:Option En}:isE k n f o=true ↔ ∃q,o=some (k,n,q)/\f q=true:=by
 cases o with
 | none=>simp[isE]
 | some e=>
  obtain⟨a,b,c⟩:=e
  simp only [isE,Bool.and_eq_true,decide_eq_true_eq,Option.some.injEq,Prod.mk.injEq]
  constructor
  ·rintro ⟨rfl,rfl,h⟩;exact⟨c,⟨rfl,rfl,rfl⟩,h⟩
  ·rintro ⟨q,⟨rfl,rfl,rfl⟩,h⟩;exact⟨rfl,rfl,h⟩
theorem qg {l n:List UInt8}{q:Sp}(h:enK l=some (2,n,q)):pkR l=some q/\pkN l=n:=by
 unfold enK at h
 split at h
 ·simp at h
 ·split at h
  ·rename_i p hp
   simp at h
   rw[hp,h.1,h.2];exact⟨rfl,rfl⟩
  ·split at h <;> simp at h
theorem qw {l n:List UInt8}{q:Sp}(h:enK l=some (3,n,q)):∃a,raK l=some a/\pkN l=n/\q=(a,32):=by
 unfold enK at h
 split at h
 ·simp at h
 ·split at h
  ·simp at h
  ·split at h
   ·rename_i a ha
    simp at h
    exact⟨a,ha,h.1,h.2.symm⟩
   ·simp at h
theorem iq {l:List UInt8}{q:Sp}(h:pkR l=some q):fault q.1 q.2=0:=by
 unfold pkR at h
 split at h
 ·unfold pxD at h
  split at h
  ·split at h
   ·rename_i g;cases h;exact g
   ·cases h
  ·cases h
 ·cases h
theorem zH {l:List UInt8}{a:Int}(h:raK l=some a):isA a=true:=by
 unfold raK at h
 split at h
 ·rename_i g
  obtain⟨h0,h1⟩:=adR (by decide) (fun b d hd=>by have:=RI hd;omega) _ _ _ (Int.le_refl 0) h
  rw[g.2] at h1
  exact qV h0 (by have:((0:Int)+1)*16 ^ 8=4294967296:=by decide
                  omega)
 ·cases h
theorem Ur (L:List Vs.Pr)(n:List UInt8){a:Int}:Pj L n a=true ↔ ∃k:Int,0<=k/\k<=32/\qF L n (upP a k)=true:=by
 unfold Pj qF
 simp only [List.any_eq_true,qP,decide_eq_true_eq]
 constructor
 ·rintro ⟨p,hp,q,hq,hh⟩
  have hf:=iq (qg hq).1
  obtain⟨l0,l1,_⟩:=bn hf
  exact⟨q.2,l0,l1,p,hp,q,hq,(Ub hf).1 hh⟩
 ·rintro ⟨k,h0,h1,p,hp,q,hq,rfl⟩
  have hf:=iq (qg hq).1
  exact⟨p,hp,_,hq,(Ub hf).2 rfl⟩
def plE (c:Option ByteArray)(k:ByteArray):Int:=match c with
 | none=>0
 | some x=>if Vs.bl x k=true then 0 else 2
def auE (L:List Vs.Pr)(c:Option ByteArray)(p:Vs.Pr):Int:=
 if plE c p.1=0 then (match ek p with
  | none=>5
  | some e=>if isN p.2.data.toList=true then (if e.1=1 then 0 else if xY L e.2.1=true then (if e.1=3/\Pj L e.2.1 e.2.2.1=false then 7 else 0) else 4) else 5) else plE c p.1
def prv (L:List Vs.Pr)(i:Nat):Option ByteArray:=if i=0 then none else (L[i - 1]?).map Prod.fst
def yA (L:List Vs.Pr)(i:Nat):Int:=match L[i]? with
 | none=>0
 | some p=>auE L (prv L i) p
def auG (L:List Vs.Pr):Nat->Nat->Int×Int
 | 0,_=>(0,0)
 | n+1,i=>if yA L i=0 then auG L n (i+1) else ((i:Int),yA L i)
def auP (L:List Vs.Pr):Int×Int:=auG L L.length 0
theorem Xr {L:List Vs.Pr}{i:Nat}(h:i<L.length)(h0:yA L i=0):auG L (L.length - i) i=auG L (L.length - (i+1)) (i+1):=by
 rw[show L.length - i=L.length - (i+1)+1 from by omega,auG,if_pos h0]
theorem ae1 {L:List Vs.Pr}{i:Nat}(h:i<L.length)(h0:yA L i≠0):auG L (L.length - i) i=((i:Int),yA L i):=by
 rw[show L.length - i=L.length - (i+1)+1 from by omega,auG,if_neg h0]
theorem SE {L:List Vs.Pr}:∀(n i:Nat),(auG L n i).2=0 -> ∀j,i<=j->j<i+n->yA L j=0
 | 0,_,_,j,h1,h2=>by omega
 | n+1,i,h,j,h1,h2=>by
  unfold auG at h
  split at h
  ·rename_i g
   by_cases e:j=i
   ·rw[e];exact g
   ·exact SE n (i+1) h j (by omega) (by omega)
  ·rename_i g;exact absurd h g
theorem Xa {L:List Vs.Pr}(h:(auP L).2=0):L.Pairwise fun x y=>Vs.bl x.1 y.1=true:=by
 have hz:=SE L.length 0 h
 have step:∀i,i+1<L.length->Vs.bl (L.getD i default).1 (L.getD (i+1) default).1=true:=fun i hi=>by
  have h1:=hz (i+1) (by omega) (by omega)
  unfold yA at h1
  have e1:L[i]? = some L[i]:=List.getElem?_eq_getElem (by omega)
  have e2:L[i+1]? = some L[i+1]:=List.getElem?_eq_getElem hi
  rw[e2] at h1
  simp only at h1
  have hpr:prv L (i+1)=some L[i].1:=by
   unfold prv
   rw[if_neg (by omega),show i+1 - 1=i from by omega,e1];rfl
  rw[hpr] at h1
  unfold auE plE at h1
  simp only at h1
  rw[List.getD_eq_getElem?_getD,List.getD_eq_getElem?_getD,e1,e2]
  cases hb:Vs.bl L[i].1 L[i+1].1 with
  | true=>exact hb
  | false=>simp[hb] at h1
 rw[List.pairwise_iff_getElem]
 intro i j hi hj hij
 have key:∀d,i+1+d<L.length->Vs.bl (L.getD i default).1 (L.getD (i+1+d) default).1=true:=fun d=>by
  induction d with
  | zero=>exact fun h=>step i h
  | succ d ih=>exact fun h=>Vs.dA (ih (by omega)) (step (i+1+d) h)
 have:=key (j - i - 1) (by omega)
 rw[show i+1+(j - i - 1)=j from by omega] at this
 simpa [List.getD_eq_getElem?_getD,hi,hj] using this
theorem LV {f:UInt8->Option Int}{base:Int}(hb:0<base)(hf:∀b d,f b=some d->0<=d/\d<base)(hlt:∀x y dx dy,f x=some dx->f y=some dy->x<y->dx<dy) :
  ∀(x y:List UInt8) (n m u v:Int),x.length=y.length->0<=n->rx f base n x=some u->rx f base m y=some v->(n<m->u<v)/\(n=m->Op.bytesLess x y=true->u<v)
 | [],[],n,m,u,v,_,_,h1,h2=>by
  cases h1;cases h2
  exact⟨id,fun _ h=>by simp[Op.bytesLess] at h⟩
 | [],_ :: _,_,_,_,_,h,_,_,_=>by simp at h
 | _ :: _,[],_,_,_,_,h,_,_,_=>by simp at h
 | a :: x,b :: y,n,m,u,v,hl,hn,h1,h2=>by
  cases ea:f a with
  | none=>rw[KX ea] at h1;cases h1
  | some da=>
   cases eb:f b with
   | none=>rw[KX eb] at h2;cases h2
   | some db=>
    rw[EI ea] at h1
    rw[EI eb] at h2
    obtain⟨a0,a1⟩:=hf a da ea
    obtain⟨b0,b1⟩:=hf b db eb
    have hnb:0<=n*base:=Int.mul_nonneg hn (by omega)
    have ih:=LV hb hf hlt x y (n*base+da) (m*base+db) u v (by simpa using hl) (by omega) h1 h2
    constructor
    ·intro hnm
     refine ih.1 ?_
     have:(n+1)*base<=m*base:=Int.mul_le_mul_of_nonneg_right (by omega) (by omega)
     rw[Int.add_mul] at this
     omega
    ·rintro rfl hlt'
     simp only [Op.bytesLess,Bool.or_eq_true,Bool.and_eq_true,decide_eq_true_eq,beq_iff_eq] at hlt'
     rcases hlt' with h|⟨rfl,h⟩
     ·exact ih.1 (by have:=hlt a b da db ea eb h;omega)
     ·have:da=db:=by rw[ea] at eb;exact Option.some.inj eb
      exact ih.2 (by rw[this]) h
theorem aex (x y:UInt8)(dx dy:Int)(h1:hxv x=some dx)(h2:hxv y=some dy)(h:x<y):dx<dy:=by
 have h:x.toNat<y.toNat:=h
 unfold hxv at h1 h2
 split at h1
 ·split at h2
  ·cases h1;cases h2;omega
  ·split at h2
   ·cases h1;cases h2;omega
   ·cases h2
 ·split at h1
  ·split at h2
   ·omega
   ·split at h2
    ·cases h1;cases h2;omega
    ·cases h2
  ·cases h1
theorem ahb (x y:UInt8)(dx dy:Int)(h1:dv x=some dx)(h2:dv y=some dy)(h:x<y):dx<dy:=by
 have h:x.toNat<y.toNat:=h
 unfold dv at h1 h2
 split at h1
 ·split at h2
  ·cases h1;cases h2;omega
  ·cases h2
 ·cases h1
theorem acK (x y z:List UInt8):Op.bytesLess (x++y) (x++z)=Op.bytesLess y z:=by
 induction x with
 | nil=>rfl
 | cons a x ih=>simp[Op.bytesLess,ih,UInt8.lt_irrefl]
theorem Kq:∀(x x' y y':List UInt8),x.length=x'.length->Op.bytesLess (x++y) (x'++y')=true->Op.bytesLess x x'=true \/ (x=x'/\Op.bytesLess y y'=true)
 | [],[],_,_,_,h=>.inr ⟨rfl,h⟩
 | [],_ :: _,_,_,h,_=>by simp at h
 | _ :: _,[],_,_,h,_=>by simp at h
 | a :: x,b :: x',y,y',hl,h=>by
  simp only [List.cons_append,Op.bytesLess,Bool.or_eq_true,Bool.and_eq_true,decide_eq_true_eq,beq_iff_eq] at h ⊢
  rcases h with h|⟨rfl,h⟩
  ·exact .inl (.inl h)
  ·rcases Kq x x' y y' (by simpa using hl) h with g|⟨rfl,g⟩
   ·exact .inl (.inr ⟨rfl,g⟩)
   ·exact .inr ⟨rfl,g⟩
theorem QO {l:List UInt8}{q:Sp}(h:pkR l=some q):l=[112,47]++pkN l ++ [47]++pkD l/\(pkD l).length=10/\rx hxv 16 0 ((pkD l).take 8)=some q.1/\rx dv 10 0 ((pkD l).drop 8)=some q.2:=by
 unfold pkR at h
 split at h
 ·rename_i g
  obtain⟨gk,g10⟩:=g
  unfold kcB at gk
  simp only [Bool.and_eq_true,decide_eq_true_eq] at gk
  have hc:=zY 47 _ gk.2.1
  refine⟨?_,g10,?_⟩
  ·have e:=List.take_append_drop 2 l
   rw[gk.1] at e
   rw[hc] at e
   rw[<- e]
   show _=[112,47]++pkN ([112,47]++(_++47 :: _)) ++ [47]++pkD ([112,47]++(_++47 :: _))
   have e2:∀z:List UInt8,pkN ([112,47]++z)=(dK 47 z).1:=fun _=>rfl
   have e3:∀z:List UInt8,pkD ([112,47]++z)=(dK 47 z).2.1:=fun _=>rfl
   rw[e2,e3,<- hc]
   rw[List.append_assoc,List.append_assoc]
   show [112,47]++List.drop 2 l=[112,47]++((dK 47 (List.drop 2 l)).1++([47]++(dK 47 (List.drop 2 l)).2.1))
   congr 1
  ·unfold pxD at h
   split at h
   ·rename_i a n ea en
    split at h
    ·cases h;exact⟨ea,en⟩
    ·cases h
   ·cases h
 ·cases h
theorem Py {k k' n:List UInt8}{q q':Sp}(h:enK k=some (2,n,q))(h':enK k'=some (2,n,q'))(hlt:Op.bytesLess k k'=true):ahd q q'=true:=by
 obtain⟨hp,hn⟩:=qg h
 obtain⟨hp',hn'⟩:=qg h'
 obtain⟨e1,l1,a1,b1⟩:=QO hp
 obtain⟨e2,l2,a2,b2⟩:=QO hp'
 rw[e1,e2,hn,hn',acK,<- List.take_append_drop 8 (pkD k),<- List.take_append_drop 8 (pkD k')] at hlt
 rw[Tq]
 rcases Kq _ _ _ _ (by simp[l1,l2]) hlt with g|⟨ge,g⟩
 ·exact .inl ((LV (by decide) (fun b d hd=>by have:=RI hd;omega) aex _ _ 0 0 _ _ (by simp[l1,l2]) (Int.le_refl 0) a1 a2).2 rfl g)
 ·rw[ge] at a1
  rw[a1] at a2
  exact .inr ⟨Option.some.inj a2,(LV (by decide) (fun b d hd=>by have:=adH hd;omega) ahb _ _ 0 0 _ _ (by simp[l1,l2]) (Int.le_refl 0) b1 b2).2 rfl g⟩
def pk1 (k:Int)(n:List UInt8)(p:Vs.Pr):Option Sp:=match ek p with
 | none=>none
 | some e=>if e.1=k/\e.2.1=n then some e.2.2 else none
def pck (L:List Vs.Pr)(k:Int)(n:List UInt8):List Sp:=L.filterMap (pk1 k n)
theorem iP {k:Int}{n:List UInt8}{p:Vs.Pr}{q:Sp}:pk1 k n p=some q↔ek p=some (k,n,q):=by
 unfold pk1
 cases ek p with
 | none=>simp
 | some e=>
  obtain⟨a,b,c⟩:=e
  simp only [Option.some.injEq,Prod.mk.injEq]
  constructor
  ·intro h
   split at h
   ·rename_i g;cases h;exact⟨g.1,g.2,rfl⟩
   ·cases h
  ·rintro ⟨rfl,rfl,rfl⟩
   rw[if_pos ⟨rfl,rfl⟩]
theorem Vj {L:List Vs.Pr}(h:(auP L).2=0)(n:List UInt8):IsT (pck L 2 n):=by
 have hr:=Xa h
 refine⟨?_,fun p hp=>?_⟩
 ·unfold pck
  rw[List.pairwise_filterMap]
  refine hr.imp fun {x y} hb a ha b hb'=>?_
  rw[iP] at ha hb'
  have hb:Op.bytesLess x.1.toList y.1.toList=true:=hb
  rw[Lib.toList_data,Lib.toList_data] at hb
  exact Py ha hb' hb
 ·obtain⟨x,hx,hq⟩:=List.mem_filterMap.1 hp
  rw[iP] at hq
  exact iq (qg hq).1
theorem Oy (L:List Vs.Pr)(n:List UInt8)(q:Sp):qF L n q=true↔q∈pck L 2 n:=by
 unfold qF pck
 simp only [List.any_eq_true,qP,decide_eq_true_eq,List.mem_filterMap,iP]
 constructor
 ·rintro ⟨p,hp,q',hq,rfl⟩;exact⟨p,hp,hq⟩
 ·rintro ⟨p,hp,hq⟩;exact⟨p,hp,q,hq,rfl⟩
def pfF (L:List Vs.Pr)(n:List UInt8):Int:=if (auP L).2=0 then (if xY L n=true then (if 60<(pck L 2 n).length then 3 else 0) else 4) else (auP L).2
def pfT (L:List Vs.Pr)(n:List UInt8):List Sp:=if pfF L n=0 then pck L 2 n else []
theorem XK {L:List Vs.Pr}(h:(auP L).2=0)(n:List UInt8):NQ (pck L 2 n)=if 60<(pck L 2 n).length then 3 else 0:=by
 by_cases g:60<(pck L 2 n).length
 ·unfold NQ
  rw[if_pos g,if_pos g]
 ·rw[if_neg g]
  exact abW (by omega) (Vj h n)
def usd (L:List Vs.Pr)(n:List UInt8)(p:Sp):List Int:=((pck L 3 n).filter fun q=>dQ q.1 q.2 p.1 p.2).map Prod.fst
theorem Rf {a:Int}{p:Sp}(ha:isA a=true)(hp:fault p.1 p.2=0):dQ a 32 p.1 p.2=hs p a:=by
 unfold dQ
 have h0:fault a 32=0:=by have:=QS ha (k:=32) (by decide) (by decide);rwa [aan] at this
 have hw:DL a 32 p.1 p.2=0:=by unfold DL;rw[if_pos h0];exact hp
 rw[decide_eq_true hw,Bool.true_and,ag7];rfl
theorem aby (L:List Vs.Pr)(n:List UInt8)(p:Sp):∀a∈usd L n p,isA a=true:=fun a ha=>by
 unfold usd at ha
 obtain⟨q,hq,rfl⟩:=List.mem_map.1 ha
 obtain⟨x,_,hx⟩:=List.mem_filterMap.1 (List.mem_filter.1 hq).1
 obtain⟨b,hb,_,rfl⟩:=qw (iP.1 hx)
 exact zH hb
def ueF (L:List Vs.Pr)(n:List UInt8)(p:Sp):Int:=if (auP L).2=0 then (if qF L n p=true then (if 200<(usd L n p).length then 3 else 0) else 4) else (auP L).2
theorem YN {L:List Vs.Pr}{n:List UInt8}{p:Sp}(h:(auP L).2=0)(hq:qF L n p=true):fault p.1 p.2=0/\usF p (usd L n p)=ueF L n p:=by
 have hp:fault p.1 p.2=0:=(Vj h n).2 p ((Oy L n p).1 hq)
 refine⟨hp,?_⟩
 unfold usF ueF
 rw[if_pos hp,if_pos h,if_pos hq]
 by_cases g:200<(usd L n p).length
 ·rw[if_pos g,if_pos g]
 ·rw[if_neg g,if_neg g]
  exact YA (aby L n p)
theorem aeN {n r:List UInt8}(h:(47:UInt8) ∉ n):dK 47 (n++47 :: r)=(n,r,true):=by
 induction n with
 | nil=>simp[dK]
 | cons a m ih=>
  have h1:a≠47:=fun e=>h (by simp[e])
  have h2:=ih (fun e=>h (by simp[e]))
  simp[dK,h1,h2]
theorem Y2 {c:UInt8}{n r:List UInt8}(h:isN n=true):kcB c ([c,47]++n ++ [47]++r)=true/\pkN ([c,47]++n ++ [47]++r)=n/\pkD ([c,47]++n ++ [47]++r)=r:=by
 have e:([c,47]++n ++ [47]++r).drop 2=n++47 :: r:=by simp
 have q:=aeN (r:=r) (Yd h)
 refine⟨?_,?_,?_⟩
 ·unfold kcB pkN
  rw[e,q]
  simp[h]
 ·unfold pkN;rw[e,q]
 ·unfold pkD;rw[e,q]
theorem C9 {n:List UInt8}(h:isN n=true):enK (xZ n)=some (1,n,(0,0)):=by
 unfold enK
 rw[if_pos (by simp[nkB,xZ,h])]
 simp[xZ]
theorem fQ {n:List UInt8}{p:Sp}(h:isN n=true)(hf:fault p.1 p.2=0):enK (rG n p.1 p.2)=some (2,n,p):=by
 unfold enK
 rw[if_neg (by unfold rG;simp[nkB])]
 obtain⟨e1,e2⟩:=aaS h hf
 rw[e1,e2]
theorem gJ {n:List UInt8}{a:Int}(h:isN n=true)(hf:fault a 32=0):enK (D6 n a)=some (3,n,(a,32)):=by
 have e:D6 n a=[97,47]++n ++ [47]++hxK 8 a.toNat:=rfl
 obtain⟨k1,k2,k3⟩:=Y2 (c:=97) (r:=hxK 8 a.toNat) h
 have hp:pkR ([97,47]++n ++ [47]++hxK 8 a.toNat)=none:=U3 (by simp[kcB])
 have ha:isA a=true:=by
  unfold fault at hf
  split at hf
  ·cases hf
  ·rename_i q
   cases e:isA a
   ·exact absurd (.inr (.inr e)) q
   ·rfl
 have hr:raK ([97,47]++n ++ [47]++hxK 8 a.toNat)=some a:=by
  unfold raK
  rw[if_pos ⟨k1,by rw[k3,qR]⟩,k3,Zj]
  unfold isA at ha
  simp only [Bool.and_eq_true,decide_eq_true_eq] at ha
  congr 1
  omega
 unfold enK
 rw[e,if_neg (by simp[nkB]),hp,hr,k2]
theorem U9:∀(x k:List UInt8),(Op.bytesLess k (x ++ [47])=false/\Op.bytesLess k (x ++ [48])=true) ↔ ∃r,k=x ++ [47]++r
 | [],k=>by
  cases k with
  | nil=>simp[Op.bytesLess]
  | cons a t=>
   constructor
   ·rintro ⟨h1,h2⟩
    have e:a=47:=by
     have n1:=UInt8.lt_iff_toNat_lt (a:=a) (b:=47)
     have n2:=UInt8.lt_iff_toNat_lt (a:=a) (b:=48)
     rcases Nat.lt_trichotomy a.toNat 47 with g|g|g
     ·have:a<47:=n1.2 g
      simp[Op.bytesLess,this] at h1
     ·exact UInt8.toNat_inj.1 g
     ·have g1:¬a<48:=fun q=>by have:=n2.1 q;have e8:(48:UInt8).toNat=48:=rfl;omega
      cases t <;> simp[Op.bytesLess,g1] at h2
    exact⟨t,by simp[e]⟩
   ·rintro ⟨r,e⟩
    simp at e
    obtain⟨rfl,rfl⟩:=e
    constructor
    ·cases t <;> simp[Op.bytesLess]
    ·simp[Op.bytesLess]
 | b :: x,k=>by
  cases k with
  | nil=>simp[Op.bytesLess]
  | cons a t=>
   have ih:=U9 x t
   constructor
   ·rintro ⟨h1,h2⟩
    have e:a=b:=by
     have n1:=UInt8.lt_iff_toNat_lt (a:=a) (b:=b)
     rcases Nat.lt_trichotomy a.toNat b.toNat with g|g|g
     ·have:a<b:=n1.2 g
      simp[Op.bytesLess,this] at h1
     ·exact UInt8.toNat_inj.1 g
     ·have g1:¬a<b:=fun q=>by have:=n1.1 q;omega
      have g2:¬a=b:=fun q=>by rw[q] at g;omega
      simp[Op.bytesLess,g1,g2] at h2
    subst e
    simp[Op.bytesLess,UInt8.lt_irrefl] at h1 h2
    obtain⟨r,hr⟩:=ih.1 ⟨by simpa using h1,by simpa using h2⟩
    exact⟨r,by simp[hr]⟩
   ·rintro ⟨r,e⟩
    simp at e
    obtain⟨rfl,e⟩:=e
    obtain⟨i1,i2⟩:=ih.2 ⟨r,by simpa using e⟩
    simp[Op.bytesLess,UInt8.lt_irrefl,i1,i2]
end Bur
namespace Vs
open Go
theorem Uy (c:UInt8)(n k:ByteArray):btw (loK c n) (heK c n) k=true ↔ ∃r,k.data.toList=[c,47]++n.data.toList ++ [47]++r:=by
 unfold btw bl
 rw[Lib.toList_data,Lib.toList_data,Lib.toList_data,Bool.and_eq_true,Bool.not_eq_true']
 unfold loK heK
 rw[gI,gI]
 exact Bur.U9 ([c,47]++n.data.toList) k.data.toList
theorem BX {n k:ByteArray}{q:Bur.Sp}(hn:Bur.isN n.data.toList=true):(btw (loK 112 n) (heK 112 n) k=true/\Bur.pkR k.data.toList=some q)↔Bur.enK k.data.toList=some (2,n.data.toList,q):=by
 rw[Uy]
 constructor
 ·rintro ⟨⟨r,hr⟩,hq⟩
  obtain⟨_,k2,_⟩:=Bur.Y2 (c:=112) (r:=r) hn
  rw[hr] at hq ⊢
  unfold Bur.enK
  rw[if_neg (by simp[Bur.nkB]),hq,k2]
 ·intro h
  obtain⟨e1,e2⟩:=Bur.qg h
  obtain⟨e3,_⟩:=Bur.QO e1
  rw[e2] at e3
  exact⟨⟨_,e3⟩,e1⟩
theorem UL {n k:ByteArray}{a:Int}(hn:Bur.isN n.data.toList=true):(btw (loK 97 n) (heK 97 n) k=true/\Bur.raK k.data.toList=some a)↔Bur.enK k.data.toList=some (3,n.data.toList,(a,32)):=by
 rw[Uy]
 constructor
 ·rintro ⟨⟨r,hr⟩,hq⟩
  obtain⟨_,k2,_⟩:=Bur.Y2 (c:=97) (r:=r) hn
  rw[hr] at hq ⊢
  unfold Bur.enK
  rw[if_neg (by simp[Bur.nkB]),Bur.U3 (by simp[Bur.kcB]),hq,k2]
 ·intro h
  obtain⟨b,e1,e2,e3⟩:=Bur.qw h
  have:a=b:=congrArg Prod.fst e3
  subst this
  refine⟨?_,e1⟩
  have hk:Bur.kcB 97 k.data.toList=true:=by
   cases q:Bur.kcB 97 k.data.toList
   ·rw[Bur.afM q] at e1;cases e1
   ·rfl
  unfold Bur.kcB at hk
  simp only [Bool.and_eq_true,decide_eq_true_eq] at hk
  have hb:=Bur.zY 47 _ hk.2.1
  refine⟨Bur.pkD k.data.toList,?_⟩
  have e2':(Bur.dK 47 (k.data.toList.drop 2)).1=n.data.toList:=e2
  have hd:k.data.toList.drop 2=n.data.toList++47 :: Bur.pkD k.data.toList:=by
   rw[<- e2']
   exact hb
  calc k.data.toList=k.data.toList.take 2++k.data.toList.drop 2:=(List.take_append_drop 2 _).symm
   _=[97,47]++(n.data.toList++47 :: Bur.pkD k.data.toList):=by rw[hk.1,hd]
   _=_:=by simp
end Vs
namespace Bur.GrF
theorem abl {q:Sp}:OkP q↔fault q.1 q.2=0:=Iff.rfl
theorem XV {p q:Sp}(hp:OkP p)(hq:OkP q):dQ p.1 p.2 q.1 q.2=inP p q:=by
 have h:DL p.1 p.2 q.1 q.2=0:=(if_pos hp).trans hq
 simp only [dQ,h,inP]
 rfl
theorem acr {u:List Int}(h:nxF (0,26) u=0):1<=nxS (0,26) u/\nxS (0,26) u<=62/\nxS (0,26) u ∉ u:=by
 unfold nxF at h
 by_cases c:usF (0,26) u=0
 ·rw[if_pos c] at h
  have e:nxS (0,26) u=(nxt (0,26) u).getD 0:=by unfold nxS;rw[if_pos c]
  rw[e]
  cases hx:nxt (0,26) u with
  | none=>rw[hx] at h;cases h
  | some a=>
   obtain⟨h1,h2,h3,_⟩:=ED (zZ c).1 hx
   have e1:(usa (0,26)).1=1:=by decide
   have e2:(usa (0,26)).2=62:=by decide
   rw[e1] at h1
   rw[e2] at h2
   exact⟨h1,h2,h3⟩
 ·rw[if_neg c] at h
  exact absurd h c
theorem Ya {a:Int}(h1:1<=a)(h2:a<=62):dQ a 32 0 26=true:=by
 have hA:isA a=true:=by unfold isA;simp;omega
 have:=Rf (p:=(0,26)) hA (by decide)
 have h3:hs (0,26) a=true:=by
  unfold hs
  have:sz 26=64:=by decide
  simp[this]
  omega
 exact this.trans h3
theorem acz {l:List Sp}{n:Int}(hf:fsF (0,26) l n=0):OkP (fsS (0,26) l n)/\inP (fsS (0,26) l n) (0,26)=true /\ ∀r∈l,inP (fsS (0,26) l n) r=false/\inP r (fsS (0,26) l n)=false:=by
 have h:gfF (0,26) l n=0:=by
  unfold fsF at hf
  by_cases c:gfF (0,26) l n=0
  ·exact c
  ·rw[if_neg c] at hf;exact absurd hf c
 obtain⟨h0,h1,h2⟩:=DZ h
 obtain⟨a,b,c⟩:=yC h0
 have e:fsS (0,26) l n=((fsp (0,26) l n).getD 0,n):=if_pos hf
 unfold fsF at hf
 rw[if_pos h] at hf
 cases hx:fsp (0,26) l n with
 | none=>rw[hx] at hf;cases hf
 | some x=>
  rw[hx] at e
  obtain⟨g1,_⟩:=O6 a h1 h2 hx
  have g:fsS (0,26) l n∈frs (0,26) l n:=by rw[e];exact g1
  obtain⟨o1,_,o3,o4⟩:=(BZ a h1 h2 _).1 g
  exact⟨o1,o3,fun r hr=>afj ((zM l _).1 o4 r hr)⟩
