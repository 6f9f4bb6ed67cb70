/- -/
import Derived.Test.YtmghmpclmphccaaGreatDoorKAdStrMath
import Derived.Lib.IndexMore
import Derived.Lib.ItoaNum
import Derived.Test.YtmghmpclmphccaaGreatDoorKVsMath
import Derived.Test.YtmghmpclmphccaaGreatDoorKCvMath
namespace Bur
open Go
def cutc (c:UInt8):List UInt8->List UInt8×List UInt8×Bool
 | []=>([],[],false)
 | b :: l=>if b=c then ([],l,true) else (b :: (cutc c l).1,(cutc c l).2.1,(cutc c l).2.2)
theorem cut_eq (c:UInt8):∀ l:List UInt8,Lib.cut l [c]=cutc c l
 | []=>by simp[Lib.cut,Lib.index,cutc]
 | b :: l=>by
  have ih:=cut_eq c l
  unfold Lib.cut at ih ⊢
  simp only [cutc]
  by_cases h:b=c
  ·subst h
   simp[Lib.index]
  ·have h2:([c]:List UInt8).isPrefixOf (b :: l)=false:=by
    show (c==b&&_)=false
    rw[beq_eq_false_iff_ne.2 (Ne.symm h)];rfl
   rw[if_neg h,<- ih]
   simp only [Lib.index,h2]
   by_cases h3:Lib.index l [c] = -1
   ·simp[h3]
   ·have h4:0<=Lib.index l [c]:=by
     have:=ih
     exact Int.not_lt.1 (fun hn=>h3 (by have:=Lib.index_ge l [c];omega))
    have h5:(Lib.index l [c] == -1)=false:=by simp[h3]
    rw[if_pos h4]
    simp only [h5]
    have e:(Lib.index l [c]+1).toNat=(Lib.index l [c]).toNat+1:=by omega
    simp[e,show 0<=Lib.index l [c]+1 from by omega]
theorem cutc_len (c:UInt8):∀ l:List UInt8,(cutc c l).1.length<=l.length/\(cutc c l).2.1.length<=l.length
 | []=>by simp[cutc]
 | b :: l=>by
  have:=cutc_len c l
  simp only [cutc]
  split
  ·simp
  ·simp;omega
theorem cutc_hit {c:UInt8}:∀ (x y:List UInt8),c ∉ x->cutc c (x++c :: y)=(x,y,true)
 | [],y,_=>by simp[cutc]
 | b :: x,y,h=>by
  simp only [List.mem_cons,not_or] at h
  have:=cutc_hit x y h.2
  simp only [List.cons_append,cutc]
  rw[if_neg (Ne.symm h.1),this]
end Bur
namespace Bur
open Go
theorem ext_list (s:ByteArray) (a b:Nat):(s.extract a b).data.toList=(s.data.toList.drop a).take (b - a):=by
 rw[ByteArray.data_extract,Array.toList_extract]
end Bur
namespace Bur
open Go
def lz (b:UInt8):Bool:=decide (97<=b.toNat)&&decide (b.toNat<=122)
def isN (l:List UInt8):Bool:=decide (0<l.length)&&(decide (l.length<=8)&&l.all lz)
theorem isN_ok {l:List UInt8} (h:isN l=true):0<l.length/\l.length<=8 /\ ∀ b∈l,97<=b.toNat/\b.toNat<=122:=by
 simp only [isN,Bool.and_eq_true,decide_eq_true_eq,List.all_eq_true,lz] at h
 exact h
theorem isN_no {l:List UInt8} (h:isN l=true):(47:UInt8) ∉ l:=fun hm=>by
 have:=((isN_ok h).2.2 47 hm).1
 exact absurd this (by decide)
def hxv (b:UInt8):Option Int:=if 48<=b.toNat/\b.toNat<=57 then some ((b.toNat:Int) - 48) else if 97<=b.toNat/\b.toNat<=102 then some ((b.toNat:Int) - 87) else none
def dv (b:UInt8):Option Int:=if 48<=b.toNat/\b.toNat<=57 then some ((b.toNat:Int) - 48) else none
theorem hxv_bd {b:UInt8} {d:Int} (h:hxv b=some d):0<=d/\d<=15:=by
 unfold hxv at h
 split at h
 ·cases h;omega
 ·split at h
  ·cases h;omega
  ·cases h
theorem dv_bd {b:UInt8} {d:Int} (h:dv b=some d):0<=d/\d<=9:=by
 unfold dv at h
 split at h
 ·cases h;omega
 ·cases h
def rx (f:UInt8->Option Int) (base:Int):Int->List UInt8->Option Int
 | n,[]=>some n
 | n,b :: r=>match f b with
  | none=>none
  | some d=>rx f base (n*base+d) r
theorem rx_on {f:UInt8->Option Int} {base n d:Int} {b:UInt8} {r:List UInt8} (h:f b=some d):rx f base n (b :: r)=rx f base (n*base+d) r:=by rw[rx,h]
theorem rx_no {f:UInt8->Option Int} {base n:Int} {b:UInt8} {r:List UInt8} (h:f b=none):rx f base n (b :: r)=none:=by rw[rx,h]
theorem rx_app {f:UInt8->Option Int} {base:Int}:∀ (l m:List UInt8) (n:Int),rx f base n (l++m)=(rx f base n l).bind (fun k=>rx f base k m)
 | [],m,n=>rfl
 | b :: r,m,n=>by
  cases e:f b with
  | none=>rw[List.cons_append,rx_no e,rx_no e];rfl
  | some d=>rw[List.cons_append,rx_on e,rx_on e,rx_app r m]
theorem rx_bd {f:UInt8->Option Int} {base:Int} (hb:0<base) (hf:∀ b d,f b=some d->0<=d/\d<base):∀ (l:List UInt8) (n m:Int),0<=n->rx f base n l=some m->0<=m/\m<(n+1)*base ^ l.length
 | [],n,m,h0,h=>by cases h;simp;omega
 | b :: r,n,m,h0,h=>by
  cases e:f b with
  | none=>rw[rx_no e] at h;cases h
  | some d=>
   rw[rx_on e] at h
   obtain⟨d0,d1⟩:=hf b d e
   have hnb:0<=n*base:=Int.mul_nonneg h0 (by omega)
   obtain⟨a1,a2⟩:=rx_bd hb hf r _ m (by omega) h
   refine⟨a1,?_⟩
   have h1:(n*base+d+1)*base ^ r.length<=((n+1)*base)*base ^ r.length:=Int.mul_le_mul_of_nonneg_right (by rw[Int.add_mul];omega) (Int.le_of_lt (Int.pow_pos hb))
   rw[List.length_cons,Int.pow_succ,Int.mul_comm (base ^ r.length) base,<- Int.mul_assoc]
   omega
def hd (n:Nat):UInt8:=UInt8.ofNat (if n<10 then 48+n else 87+n)
def hxK:Nat->Nat->List UInt8
 | 0,_=>[]
 | k+1,n=>hxK k (n / 16) ++ [hd (n % 16)]
theorem hxK_len:∀ k n,(hxK k n).length=k
 | 0,_=>rfl
 | k+1,n=>by rw[hxK,List.length_append,hxK_len k];rfl
theorem hd_hxv:∀ n:Fin 16,hxv (hd n.val)=some (n.val:Int)/\hd n.val≠47:=by decide +kernel
theorem hxv_hd {n:Nat} (h:n<16):hxv (hd n)=some (n:Int):=(hd_hxv ⟨n,h⟩).1
theorem rx_hx:∀ (k n:Nat),rx hxv 16 0 (hxK k n)=some ((n % 16 ^ k:Nat):Int)
 | 0,n=>by simp[hxK,rx,Nat.mod_one]
 | k+1,n=>by
  rw[hxK,rx_app,rx_hx k (n / 16)]
  show rx hxv 16 _ [hd (n % 16)]=_
  rw[rx_on (hxv_hd (Nat.mod_lt _ (by decide)))]
  show some _=some _
  congr 1
  have h1:n % 16 ^ (k+1)=n % 16+16*(n / 16 % 16 ^ k):=by rw[Nat.pow_succ,Nat.mul_comm,Nat.mod_mul]
  omega
def hxM (n:Nat):List UInt8:=if n<16 then [hd n] else hxM (n / 16) ++ [hd (n % 16)]
termination_by n
decreasing_by omega
theorem hxM_small {n:Nat} (h:n<16):hxM n=[hd n]:=by rw[hxM,if_pos h]
theorem hxM_big {n:Nat} (h:¬ n<16):hxM n=hxM (n / 16) ++ [hd (n % 16)]:=by rw[hxM,if_neg h]
theorem hxK_zero:∀ k,hxK k 0=List.replicate k 48
 | 0=>rfl
 | k+1=>by rw[hxK,hxK_zero k,List.replicate_succ'];rfl
theorem hx_pad:∀ (k n:Nat),0<k->n<16 ^ k->(hxM n).length<=k/\hxK k n=List.replicate (k - (hxM n).length) 48++hxM n
 | 0,_,h,_=>by omega
 | k+1,n,_,h=>by
  by_cases hn:n<16
  ·rw[hxM_small hn,hxK,show n / 16=0 from by omega,hxK_zero,show n % 16=n from by omega]
   exact⟨by simp,by simp⟩
  ·have hk:0<k:=by
    cases k with
    | zero=>simp at h;omega
    | succ k=>omega
   obtain⟨h1,h2⟩:=hx_pad k (n / 16) hk (by rw[Nat.pow_succ] at h;omega)
   rw[hxM_big hn,hxK,h2,List.length_append]
   refine⟨by simp;omega,?_⟩
   rw[List.append_assoc]
   congr 2
   simp
theorem hxM_pos (n:Nat):0<(hxM n).length:=by
 by_cases hn:n<16
 ·rw[hxM_small hn];simp
 ·rw[hxM_big hn];simp
def d2 (n:Int):List UInt8:=[UInt8.ofNat (48+n.toNat / 10),UInt8.ofNat (48+n.toNat % 10)]
theorem d2_rd:∀ n:Fin 100,rx dv 10 0 (d2 (n.val:Int))=some (n.val:Int):=by decide +kernel
theorem rx_d2 {n:Int} (h0:0<=n) (h1:n<100):rx dv 10 0 (d2 n)=some n:=by
 have:=d2_rd ⟨n.toNat,by omega⟩
 rwa [show ((⟨n.toNat,by omega⟩:Fin 100).val:Int)=n from Int.toNat_of_nonneg h0] at this
def netK (n:List UInt8):List UInt8:=[110,47]++n
def adrK (n:List UInt8) (a:Int):List UInt8:=[97,47]++n ++ [47]++hxK 8 a.toNat
def pfxK (n:List UInt8) (a l:Int):List UInt8:=[112,47]++n ++ [47]++hxK 8 a.toNat++d2 l
def pkN (l:List UInt8):List UInt8:=(cutc 47 (l.drop 2)).1
def pkD (l:List UInt8):List UInt8:=(cutc 47 (l.drop 2)).2.1
def kcB (c:UInt8) (l:List UInt8):Bool:=decide (l.take 2=[c,47])&&((cutc 47 (l.drop 2)).2.2&&isN (pkN l))
def pxD (d:List UInt8):Option (Int×Int):=match rx hxv 16 0 (d.take 8),rx dv 10 0 (d.drop 8) with
 | some a,some n=>if fault a n=0 then some (a,n) else none
 | _,_=>none
def pkR (l:List UInt8):Option (Int×Int):=if kcB 112 l=true/\(pkD l).length=10 then pxD (pkD l) else none
def raK (k:List UInt8):Option Int:=if kcB 97 k=true/\(pkD k).length=8 then rx hxv 16 0 (pkD k) else none
def kd0:Int×List UInt8×(Int×Int)×Int:=(0,[],(0,0),0)
def kd:List (List UInt8)->Int×List UInt8×(Int×Int)×Int
 | [a,n]=>if isN n=true/\a=[110] then (1,n,(0,0),0) else kd0
 | [a,n,d]=>if isN n=true then
   (if a=[97] then (if d.length=8 then (match rx hxv 16 0 d with
     | some v=>(3,n,(0,0),v)
     | none=>kd0) else kd0)
    else if a=[112]/\d.length=10 then (match pxD d with
     | some p=>(2,n,p,0)
     | none=>kd0) else kd0) else kd0
 | _=>kd0
theorem cutc_back (c:UInt8):∀ l:List UInt8,(cutc c l).2.2=true->l=(cutc c l).1++c :: (cutc c l).2.1
 | [],h=>by simp[cutc] at h
 | b :: l,h=>by
  unfold cutc at h ⊢
  split
  ·rename_i e;rw[e];rfl
  ·rename_i e
   rw[if_neg e] at h
   have:=cutc_back c l h
   simp only [List.cons_append]
   rw[<- this]
theorem pk_back {n:List UInt8} {a l:Int} (hn:isN n=true) (hf:fault a l=0):pkR (pfxK n a l)=some (a,l)/\pkN (pfxK n a l)=n:=by
 obtain⟨l0,l1,a0,a1,_⟩:=fault_ok hf
 have e0:pfxK n a l=112 :: 47 :: (n++47 :: (hxK 8 a.toNat++d2 l)):=by simp[pfxK]
 have hc:cutc 47 ((pfxK n a l).drop 2)=(n,hxK 8 a.toNat++d2 l,true):=by rw[e0];exact cutc_hit _ _ (isN_no hn)
 have eN:pkN (pfxK n a l)=n:=by unfold pkN;rw[hc]
 have eD:pkD (pfxK n a l)=hxK 8 a.toNat++d2 l:=by unfold pkD;rw[hc]
 have hl8:=hxK_len 8 a.toNat
 refine⟨?_,eN⟩
 unfold pkR
 rw[if_pos ⟨by unfold kcB;rw[hc,eN,hn,e0];rfl,by rw[eD,List.length_append,hl8];rfl⟩,eD]
 unfold pxD
 rw[List.take_append_of_le_length (by omega),List.drop_append_of_le_length (by omega),List.take_of_length_le (by omega),List.drop_of_length_le (by omega),List.nil_append,rx_hx,rx_d2 l0 (by omega),show a.toNat % 16 ^ 8=a.toNat from Nat.mod_eq_of_lt (by omega),Int.toNat_of_nonneg a0]
 simp only
 rw[if_pos hf]
end Bur
namespace Vs
open Go
def txt (l:List UInt8):ByteArray:=⟨l.toArray⟩
theorem txt_list (l:List UInt8):(txt l).data.toList=l:=by simp[txt]
theorem txt_size (l:List UInt8):(txt l).size=l.length:=by simp[txt,ByteArray.size]
def kN (n:ByteArray):ByteArray:=txt (Bur.netK n.data.toList)
def kA (n:ByteArray) (a:Int):ByteArray:=txt (Bur.adrK n.data.toList a)
def kP (n:ByteArray) (p:Bur.Sp):ByteArray:=txt (Bur.pfxK n.data.toList p.1 p.2)
def loK (c:UInt8) (n:ByteArray):ByteArray:=txt ([c,47]++n.data.toList ++ [47])
def heK (c:UInt8) (n:ByteArray):ByteArray:=txt ([c,47]++n.data.toList ++ [48])
structure Cl where
 what:Int
 nm:ByteArray
 p:Bur.Sp
 len:Int
 ad:Int
 ow:ByteArray
structure An where
 p:Bur.Sp
 ad:Int
 ow:ByteArray
 l:List Bur.Sp
def an0:An:=⟨(0,0),0,ByteArray.empty,[]⟩
inductive Pg where
 | ret (a:An) (f:Int)
 | get (k:ByteArray) (K:ByteArray->Int->Pg)
 | rng (lo hi:ByteArray) (K:List Pr->Int->Pg)
 | chg (c:Chg) (K:Int->Pg)
def runA:Pg->Dk->Int->An
 | .ret a _,_,_=>a
 | .get k K,d,i=>runA (K (dgS d i k) (dgF d i k)) (dgD d i k) i
 | .rng lo hi K,d,i=>runA (K (drS d i lo hi) (drF d i)) (drD d i lo hi) i
 | .chg c K,d,i=>runA (K (dcF d i c)) (dcD d i c) i
def runF:Pg->Dk->Int->Int
 | .ret _ f,_,_=>f
 | .get k K,d,i=>runF (K (dgS d i k) (dgF d i k)) (dgD d i k) i
 | .rng lo hi K,d,i=>runF (K (drS d i lo hi) (drF d i)) (drD d i lo hi) i
 | .chg c K,d,i=>runF (K (dcF d i c)) (dcD d i c) i
def runD:Pg->Dk->Int->Dk
 | .ret _ _,d,_=>d
 | .get k K,d,i=>runD (K (dgS d i k) (dgF d i k)) (dgD d i k) i
 | .rng lo hi K,d,i=>runD (K (drS d i lo hi) (drF d i)) (drD d i lo hi) i
 | .chg c K,d,i=>runD (K (dcF d i c)) (dcD d i c) i
def clF (c:Cl):Int:=
 if c.what<1 \/ 9<c.what then 1 else if Bur.isN c.nm.data.toList=false then 5
 else if (c.what=1 \/ c.what=2 \/ c.what=4 \/ c.what=6 \/ c.what=7)/\Bur.isN c.ow.data.toList=false then 5
 else if c.what=2 \/ c.what=3 \/ c.what=6 \/ c.what=7 then Bur.fault c.p.1 c.p.2
 else if c.what=4 \/ c.what=5 \/ c.what=9 then Bur.fault c.ad 32 else 0
abbrev Lot:=Bur.Sp×ByteArray
def lots (l:List Pr):List Lot:=l.filterMap fun p=>(Bur.pkR p.1.data.toList).map fun s=>(s,p.2)
def plcd (l:List Pr):List Int:=l.filterMap fun p=>Bur.raK p.1.data.toList
def inn (p:Bur.Sp) (l:List Lot):List Bur.Sp:=(l.map Prod.fst).filter fun q => !(decide (q=p) || !Bur.witB q.1 q.2 p.1 p.2)
def ins (p:Bur.Sp) (u:List Int):List Int:=u.filter fun a=>Bur.witB a 32 p.1 p.2
def hav (l:List Lot) (a:Int):List Lot:=l.filter fun o=>Bur.witB a 32 o.1.1 o.1.2
def tkF (p:Bur.Sp) (l:List Lot) (u:List Int):Bool:=decide (inn p l ≠ []) || (ins p u).any fun a=>decide ((hav l a).length<2)
def err (f:Int):Pg:=.ret an0 f
def asks (k:ByteArray) (K:ByteArray->Bool->Pg):Pg:=.get k fun v f=>if f=4 then K ByteArray.empty false else if f=0 then K v true else err f
def allL (n:ByteArray) (K:List Lot->Pg):Pg:=.rng (loK 112 n) (heK 112 n) fun l f=>if f=0 then K (lots l) else err f
def allA (n:ByteArray) (K:List Int->Pg):Pg:=.rng (loK 97 n) (heK 97 n) fun l f=>if f=0 then K (plcd l) else err f
def puts (k v:ByteArray) (a:An):Pg:=.chg ⟨k,v,false⟩ fun f=>if f=0 then .ret a 0 else err f
def drops (k:ByteArray):Pg:=.chg ⟨k,ByteArray.empty,true⟩ fun f=>err f
def pNet (c:Cl) (is:Bool):Pg:=if is=true then err 6 else puts (kN c.nm) c.ow an0
def pAdd (c:Cl):Pg:=asks (kP c.nm c.p) fun _ is=>if is=true then err 6 else puts (kP c.nm c.p) c.ow an0
def pTake (c:Cl):Pg:=asks (kP c.nm c.p) fun _ is=>if is=true then allL c.nm fun l=>allA c.nm fun u=>if tkF c.p l u=true then err 7 else drops (kP c.nm c.p) else err 4
def pPlace (c:Cl):Pg:=allL c.nm fun l=>asks (kA c.nm c.ad) fun _ is=>if hav l c.ad=[] then err 7 else if is=true then err 6 else puts (kA c.nm c.ad) c.ow an0
def pLeave (c:Cl):Pg:=asks (kA c.nm c.ad) fun _ is=>if is=true then drops (kA c.nm c.ad) else err 4
def allW (c:Cl) (K:List Lot->Pg):Pg:=allL c.nm fun l=>if c.p∈l.map Prod.fst then K l else err 4
def pNextP (c:Cl):Pg:=allW c fun l=>if Bur.fsF c.p (inn c.p l) c.len=0 then
 (if Bur.fsS c.p (inn c.p l) c.len=c.p then err 6 else puts (kP c.nm (Bur.fsS c.p (inn c.p l) c.len)) c.ow ⟨Bur.fsS c.p (inn c.p l) c.len,0,ByteArray.empty,[]⟩) else err (Bur.fsF c.p (inn c.p l) c.len)
def pNextA (c:Cl):Pg:=allW c fun _=>allA c.nm fun u=>if Bur.nxF c.p (ins c.p u)=0 then puts (kA c.nm (Bur.nxS c.p (ins c.p u))) c.ow ⟨(0,0),Bur.nxS c.p (ins c.p u),ByteArray.empty,[]⟩ else err (Bur.nxF c.p (ins c.p u))
def pList (c:Cl):Pg:=allL c.nm fun l=>.ret ⟨(0,0),0,ByteArray.empty,l.map Prod.fst⟩ 0
def pWho (c:Cl):Pg:=asks (kA c.nm c.ad) fun v is=>if is=true then .ret ⟨(0,0),0,v,[]⟩ 0 else allL c.nm fun l=>match (hav l c.ad).getLast? with
 | none=>err 4
 | some o=>.ret ⟨(0,0),0,o.2,[]⟩ 0
def pWork (c:Cl):Pg:=asks (kN c.nm) fun _ is=>
 if c.what=1 then pNet c is else if is=false then err 4
 else if c.what=2 then pAdd c else if c.what=3 then pTake c else if c.what=4 then pPlace c else if c.what=5 then pLeave c
 else if c.what=6 then pNextP c else if c.what=7 then pNextA c else if c.what=8 then pList c else pWho c
def doP (c:Cl):Pg:=if clF c=0 then pWork c else err (clF c)
end Vs
namespace Go.Proofs.YtmghmpclmphccaaGreatDoor.Pa
def I6 (i:Int):Prop := -9223372036854775808<=i/\i<=9223372036854775807
end Go.Proofs.YtmghmpclmphccaaGreatDoor.Pa
namespace Bur
open Go
def nkB (l:List UInt8):Bool:=decide (l.take 2=[110,47])&&isN (l.drop 2)
abbrev En:=Int×List UInt8×Sp
def enK (l:List UInt8):Option En:=if nkB l=true then some (1,l.drop 2,(0,0)) else match pkR l with
 | some p=>some (2,pkN l,p)
 | none=>match raK l with
  | some a=>some (3,pkN l,(a,32))
  | none=>none
def kdE:Option En->Int×List UInt8×Sp×Int
 | none=>kd0
 | some e=>if e.1=3 then (3,e.2.1,(0,0),e.2.2.1) else (e.1,e.2.1,e.2.2,0)
theorem raK_no {l:List UInt8} (h:kcB 97 l=false):raK l=none:=by
 unfold raK
 rw[if_neg (fun q=>by rw[h] at q;exact absurd q.1 (by decide))]
theorem pkR_no' {l:List UInt8} (h:kcB 112 l=false):pkR l=none:=by
 unfold pkR
 rw[if_neg (fun q=>by rw[h] at q;exact absurd q.1 (by decide))]
def upP (a k:Int):Sp:=(a - a % sz k,k)
theorem upP_32 (a:Int):upP a 32=(a,32):=by
 unfold upP
 rw[sz_32,Int.emod_one,Int.sub_zero]
theorem upP_mod (a k:Int):(a - a % sz k) % sz k=0:=by
 have:=Int.emod_add_mul_ediv a (sz k)
 rw[show a - a % sz k=sz k*(a / sz k) from by omega]
 exact Int.mul_emod_right _ _
theorem upP_ok {a k:Int} (ha:isA a=true) (h0:0<=k) (h1:k<=32):fault (upP a k).1 (upP a k).2=0:=by
 have hp:=sz_pos k
 obtain⟨a0,a1⟩:=isA_true ha
 have hm:=Int.emod_nonneg a (Int.ne_of_gt hp)
 have hq:=Int.emod_add_mul_ediv a (sz k)
 have hd:0<=sz k*(a / sz k):=Int.mul_nonneg (by omega) (Int.ediv_nonneg a0 (by omega))
 exact fault_mk h0 h1 (isA_mk (by show 0<=a - a % sz k;omega) (by show a - a % sz k<=_;omega)) (upP_mod a k)
theorem upP_up {a k:Int} (ha:isA a=true) (h0:0<k) (h1:k<=32):upF (upP a k).1 (upP a k).2=0/\(upA (upP a k).1 (upP a k).2,upL (upP a k).1 (upP a k).2)=upP a (k - 1):=by
 have hf:=upP_ok ha (by omega) h1
 have hF:upF (upP a k).1 (upP a k).2=0:=by
  unfold upF
  rw[if_neg (fun q=>by have:k=0:=q.2;omega)]
  exact hf
 refine⟨hF,?_⟩
 unfold upA upL
 rw[if_pos hF,if_pos hF]
 show ((a - a % sz k) - (a - a % sz k) % sz (k - 1),k - 1)=(a - a % sz (k - 1),k - 1)
 congr 1
 have h2:=sz_half (k - 1) (by omega)
 rw[show k - 1+1=k from by omega] at h2
 have hp:=sz_pos k
 have e1:=Int.emod_add_mul_ediv a (sz (k - 1))
 have e2:=Int.emod_add_mul_ediv (a - a % sz k) (sz (k - 1))
 have e3:=Int.emod_add_mul_ediv a (sz k)
 have e4:a / sz (k - 1)=(a - a % sz k) / sz (k - 1):=by
  rw[show a - a % sz k=sz k*(a / sz k) from by omega,h2,Int.mul_comm 2 (sz k),Int.mul_ediv_mul_of_pos _ _ hp,<- Int.ediv_ediv_of_nonneg (Int.le_of_lt hp)]
 rw[e4] at e1
 omega
theorem upP_zero (a:Int):upF (upP a 0).1 (upP a 0).2≠0:=by
 unfold upF
 by_cases h:fault (upP a 0).1 (upP a 0).2=0
 ·rw[if_pos ⟨h,rfl⟩];decide
 ·rw[if_neg (fun q=>h q.1)];exact h
theorem upP_has {a:Int} {q:Sp} (hq:fault q.1 q.2=0):hs q a=true↔q=upP a q.2:=by
 obtain⟨l0,l1,a0,a1,hz⟩:=fault_ok hq
 have hp:=sz_pos q.2
 rw[hs_iff]
 have e1:=Int.emod_add_mul_ediv a (sz q.2)
 have b1:=Int.emod_lt_of_pos a hp
 have b0:=Int.emod_nonneg a (Int.ne_of_gt hp)
 constructor
 ·rintro ⟨h1,h2⟩
  have hd:(a - q.1) % sz q.2=a % sz q.2:=by rw[Int.sub_emod,hz,Int.sub_zero,Int.emod_emod]
  rw[Int.emod_eq_of_lt (by omega) (by omega)] at hd
  exact Prod.ext (by show q.1=a - a % sz q.2;omega) rfl
 ·intro h
  have:=congrArg Prod.fst h
  have:q.1=a - a % sz q.2:=this
  omega
def ek (p:Vs.Pr):Option En:=enK p.1.data.toList
def isE (k:Int) (n:List UInt8) (f:Sp->Bool):Option En->Bool
 | none=>false
 | some e=>decide (e.1=k)&&(decide (e.2.1=n)&&f e.2.2)
def hasN (L:List Vs.Pr) (n:List UInt8):Bool:=L.any fun p=>isE 1 n (fun _=>true) (ek p)
def hasQ (L:List Vs.Pr) (n:List UInt8) (q:Sp):Bool:=L.any fun p=>isE 2 n (fun x=>decide (x=q)) (ek p)
def hasA (L:List Vs.Pr) (n:List UInt8) (a:Int):Bool:=L.any fun p=>isE 2 n (fun x=>hs x a) (ek p)
theorem isE_iff {k:Int} {n:List UInt8} {f:Sp->Bool} {o:Option En}:isE k n f o=true ↔ ∃ q,o=some (k,n,q)/\f q=true:=by
 cases o with
 | none=>simp[isE]
 | some e=>
  obtain⟨a,b,c⟩:=e
  simp only [isE,Bool.and_eq_true,decide_eq_true_eq,Option.some.injEq,Prod.mk.injEq]
  constructor
  ·rintro ⟨rfl,rfl,h⟩;exact⟨c,⟨rfl,rfl,rfl⟩,h⟩
  ·rintro ⟨q,⟨rfl,rfl,rfl⟩,h⟩;exact⟨rfl,rfl,h⟩
theorem en_two {l n:List UInt8} {q:Sp} (h:enK l=some (2,n,q)):pkR l=some q/\pkN l=n:=by
 unfold enK at h
 split at h
 ·simp at h
 ·split at h
  ·rename_i p hp
   simp at h
   rw[hp,h.1,h.2];exact⟨rfl,rfl⟩
  ·split at h <;> simp at h
theorem en_three {l n:List UInt8} {q:Sp} (h:enK l=some (3,n,q)):∃ a,raK l=some a/\pkN l=n/\q=(a,32):=by
 unfold enK at h
 split at h
 ·simp at h
 ·split at h
  ·simp at h
  ·split at h
   ·rename_i a ha
    simp at h
    exact⟨a,ha,h.1,h.2.symm⟩
   ·simp at h
theorem pkR_fault {l:List UInt8} {q:Sp} (h:pkR l=some q):fault q.1 q.2=0:=by
 unfold pkR at h
 split at h
 ·unfold pxD at h
  split at h
  ·split at h
   ·rename_i g;cases h;exact g
   ·cases h
  ·cases h
 ·cases h
theorem raK_isA {l:List UInt8} {a:Int} (h:raK l=some a):isA a=true:=by
 unfold raK at h
 split at h
 ·rename_i g
  obtain⟨h0,h1⟩:=rx_bd (by decide) (fun b d hd=>by have:=hxv_bd hd;omega) _ _ _ (Int.le_refl 0) h
  rw[g.2] at h1
  exact isA_mk h0 (by have:((0:Int)+1)*16 ^ 8=4294967296:=by decide
                      omega)
 ·cases h
theorem hasA_up (L:List Vs.Pr) (n:List UInt8) {a:Int}:hasA L n a=true ↔ ∃ k:Int,0<=k/\k<=32/\hasQ L n (upP a k)=true:=by
 unfold hasA hasQ
 simp only [List.any_eq_true,isE_iff,decide_eq_true_eq]
 constructor
 ·rintro ⟨p,hp,q,hq,hh⟩
  have hf:=pkR_fault (en_two hq).1
  obtain⟨l0,l1,_⟩:=fault_ok hf
  exact⟨q.2,l0,l1,p,hp,q,hq,(upP_has hf).1 hh⟩
 ·rintro ⟨k,h0,h1,p,hp,q,hq,rfl⟩
  have hf:=pkR_fault (en_two hq).1
  exact⟨p,hp,_,hq,(upP_has hf).2 rfl⟩
def plE (c:Option ByteArray) (k:ByteArray):Int:=match c with
 | none=>0
 | some x=>if Vs.bl x k=true then 0 else 2
def auE (L:List Vs.Pr) (c:Option ByteArray) (p:Vs.Pr):Int:=
 if plE c p.1=0 then (match ek p with
  | none=>5
  | some e=>if isN p.2.data.toList=true then (if e.1=1 then 0 else if hasN L e.2.1=true then (if e.1=3/\hasA L e.2.1 e.2.2.1=false then 7 else 0) else 4) else 5) else plE c p.1
def prv (L:List Vs.Pr) (i:Nat):Option ByteArray:=if i=0 then none else (L[i - 1]?).map Prod.fst
def auAt (L:List Vs.Pr) (i:Nat):Int:=match L[i]? with
 | none=>0
 | some p=>auE L (prv L i) p
def auG (L:List Vs.Pr):Nat->Nat->Int×Int
 | 0,_=>(0,0)
 | n+1,i=>if auAt L i=0 then auG L n (i+1) else ((i:Int),auAt L i)
def auP (L:List Vs.Pr):Int×Int:=auG L L.length 0
theorem auG_go {L:List Vs.Pr} {i:Nat} (h:i<L.length) (h0:auAt L i=0):auG L (L.length - i) i=auG L (L.length - (i+1)) (i+1):=by
 rw[show L.length - i=L.length - (i+1)+1 from by omega,auG,if_pos h0]
theorem auG_no {L:List Vs.Pr} {i:Nat} (h:i<L.length) (h0:auAt L i≠0):auG L (L.length - i) i=((i:Int),auAt L i):=by
 rw[show L.length - i=L.length - (i+1)+1 from by omega,auG,if_neg h0]
theorem rx_mono {f:UInt8->Option Int} {base:Int} (hb:0<base) (hf:∀ b d,f b=some d->0<=d/\d<base) (hlt:∀ x y dx dy,f x=some dx->f y=some dy->x<y->dx<dy) :
  ∀ (x y:List UInt8) (n m u v:Int),x.length=y.length->0<=n->rx f base n x=some u->rx f base m y=some v->(n<m->u<v)/\(n=m->Op.bytesLess x y=true->u<v)
 | [],[],n,m,u,v,_,_,h1,h2=>by
  cases h1;cases h2
  exact⟨id,fun _ h=>by simp[Op.bytesLess] at h⟩
 | [],_ :: _,_,_,_,_,h,_,_,_=>by simp at h
 | _ :: _,[],_,_,_,_,h,_,_,_=>by simp at h
 | a :: x,b :: y,n,m,u,v,hl,hn,h1,h2=>by
  cases ea:f a with
  | none=>rw[rx_no ea] at h1;cases h1
  | some da=>
   cases eb:f b with
   | none=>rw[rx_no eb] at h2;cases h2
   | some db=>
    rw[rx_on ea] at h1
    rw[rx_on eb] at h2
    obtain⟨a0,a1⟩:=hf a da ea
    obtain⟨b0,b1⟩:=hf b db eb
    have hnb:0<=n*base:=Int.mul_nonneg hn (by omega)
    have ih:=rx_mono hb hf hlt x y (n*base+da) (m*base+db) u v (by simpa using hl) (by omega) h1 h2
    constructor
    ·intro hnm
     refine ih.1 ?_
     have:(n+1)*base<=m*base:=Int.mul_le_mul_of_nonneg_right (by omega) (by omega)
     rw[Int.add_mul] at this
     omega
    ·rintro rfl hlt'
     simp only [Op.bytesLess,Bool.or_eq_true,Bool.and_eq_true,decide_eq_true_eq,beq_iff_eq] at hlt'
     rcases hlt' with h|⟨rfl,h⟩
     ·exact ih.1 (by have:=hlt a b da db ea eb h;omega)
     ·have:da=db:=by rw[ea] at eb;exact Option.some.inj eb
      exact ih.2 (by rw[this]) h
theorem hxv_lt (x y:UInt8) (dx dy:Int) (h1:hxv x=some dx) (h2:hxv y=some dy) (h:x<y):dx<dy:=by
 have h:x.toNat<y.toNat:=h
 unfold hxv at h1 h2
 split at h1
 ·split at h2
  ·cases h1;cases h2;omega
  ·split at h2
   ·cases h1;cases h2;omega
   ·cases h2
 ·split at h1
  ·split at h2
   ·omega
   ·split at h2
    ·cases h1;cases h2;omega
    ·cases h2
  ·cases h1
theorem dv_lt (x y:UInt8) (dx dy:Int) (h1:dv x=some dx) (h2:dv y=some dy) (h:x<y):dx<dy:=by
 have h:x.toNat<y.toNat:=h
 unfold dv at h1 h2
 split at h1
 ·split at h2
  ·cases h1;cases h2;omega
  ·cases h2
 ·cases h1
theorem bls_app (x y z:List UInt8):Op.bytesLess (x++y) (x++z)=Op.bytesLess y z:=by
 induction x with
 | nil=>rfl
 | cons a x ih=>simp[Op.bytesLess,ih,UInt8.lt_irrefl]
theorem bls_split:∀ (x x' y y':List UInt8),x.length=x'.length->Op.bytesLess (x++y) (x'++y')=true->Op.bytesLess x x'=true \/ (x=x'/\Op.bytesLess y y'=true)
 | [],[],_,_,_,h=>.inr ⟨rfl,h⟩
 | [],_ :: _,_,_,h,_=>by simp at h
 | _ :: _,[],_,_,h,_=>by simp at h
 | a :: x,b :: x',y,y',hl,h=>by
  simp only [List.cons_append,Op.bytesLess,Bool.or_eq_true,Bool.and_eq_true,decide_eq_true_eq,beq_iff_eq] at h ⊢
  rcases h with h|⟨rfl,h⟩
  ·exact .inl (.inl h)
  ·rcases bls_split x x' y y' (by simpa using hl) h with g|⟨rfl,g⟩
   ·exact .inl (.inr ⟨rfl,g⟩)
   ·exact .inr ⟨rfl,g⟩
theorem pk_key {l:List UInt8} {q:Sp} (h:pkR l=some q):l=[112,47]++pkN l ++ [47]++pkD l/\(pkD l).length=10/\rx hxv 16 0 ((pkD l).take 8)=some q.1/\rx dv 10 0 ((pkD l).drop 8)=some q.2:=by
 unfold pkR at h
 split at h
 ·rename_i g
  obtain⟨gk,g10⟩:=g
  unfold kcB at gk
  simp only [Bool.and_eq_true,decide_eq_true_eq] at gk
  have hc:=cutc_back 47 _ gk.2.1
  refine⟨?_,g10,?_⟩
  ·have e:=List.take_append_drop 2 l
   rw[gk.1] at e
   rw[hc] at e
   rw[<- e]
   show _=[112,47]++pkN ([112,47]++(_++47 :: _)) ++ [47]++pkD ([112,47]++(_++47 :: _))
   have e2:∀ z:List UInt8,pkN ([112,47]++z)=(cutc 47 z).1:=fun _=>rfl
   have e3:∀ z:List UInt8,pkD ([112,47]++z)=(cutc 47 z).2.1:=fun _=>rfl
   rw[e2,e3,<- hc]
   rw[List.append_assoc,List.append_assoc]
   show [112,47]++List.drop 2 l=[112,47]++((cutc 47 (List.drop 2 l)).1++([47]++(cutc 47 (List.drop 2 l)).2.1))
   congr 1
  ·unfold pxD at h
   split at h
   ·rename_i a n ea en
    split at h
    ·cases h;exact⟨ea,en⟩
    ·cases h
   ·cases h
 ·cases h
theorem key_rise {k k' n:List UInt8} {q q':Sp} (h:enK k=some (2,n,q)) (h':enK k'=some (2,n,q')) (hlt:Op.bytesLess k k'=true):ahd q q'=true:=by
 obtain⟨hp,hn⟩:=en_two h
 obtain⟨hp',hn'⟩:=en_two h'
 obtain⟨e1,l1,a1,b1⟩:=pk_key hp
 obtain⟨e2,l2,a2,b2⟩:=pk_key hp'
 rw[e1,e2,hn,hn',bls_app,<- List.take_append_drop 8 (pkD k),<- List.take_append_drop 8 (pkD k')] at hlt
 rw[ahd_iff]
 rcases bls_split _ _ _ _ (by simp[l1,l2]) hlt with g|⟨ge,g⟩
 ·exact .inl ((rx_mono (by decide) (fun b d hd=>by have:=hxv_bd hd;omega) hxv_lt _ _ 0 0 _ _ (by simp[l1,l2]) (Int.le_refl 0) a1 a2).2 rfl g)
 ·rw[ge] at a1
  rw[a1] at a2
  exact .inr ⟨Option.some.inj a2,(rx_mono (by decide) (fun b d hd=>by have:=dv_bd hd;omega) dv_lt _ _ 0 0 _ _ (by simp[l1,l2]) (Int.le_refl 0) b1 b2).2 rfl g⟩
theorem wit_hs {a:Int} {p:Sp} (ha:isA a=true) (hp:fault p.1 p.2=0):witB a 32 p.1 p.2=hs p a:=by
 unfold witB
 have h0:fault a 32=0:=by have:=upP_ok ha (k:=32) (by decide) (by decide);rwa [upP_32] at this
 have hw:witF a 32 p.1 p.2=0:=by unfold witF;rw[if_pos h0];exact hp
 rw[decide_eq_true hw,Bool.true_and,hs_in];rfl
end Bur
namespace Bur
open Go
theorem cut_at {n r:List UInt8} (h:(47:UInt8) ∉ n):cutc 47 (n++47 :: r)=(n,r,true):=by
 induction n with
 | nil=>simp[cutc]
 | cons a m ih=>
  have h1:a≠47:=fun e=>h (by simp[e])
  have h2:=ih (fun e=>h (by simp[e]))
  simp[cutc,h1,h2]
theorem kc_at {c:UInt8} {n r:List UInt8} (h:isN n=true):kcB c ([c,47]++n ++ [47]++r)=true/\pkN ([c,47]++n ++ [47]++r)=n/\pkD ([c,47]++n ++ [47]++r)=r:=by
 have e:([c,47]++n ++ [47]++r).drop 2=n++47 :: r:=by simp
 have q:=cut_at (r:=r) (isN_no h)
 refine⟨?_,?_,?_⟩
 ·unfold kcB pkN
  rw[e,q]
  simp[h]
 ·unfold pkN;rw[e,q]
 ·unfold pkD;rw[e,q]
theorem en_net {n:List UInt8} (h:isN n=true):enK (netK n)=some (1,n,(0,0)):=by
 unfold enK
 rw[if_pos (by simp[nkB,netK,h])]
 simp[netK]
theorem en_pfx {n:List UInt8} {p:Sp} (h:isN n=true) (hf:fault p.1 p.2=0):enK (pfxK n p.1 p.2)=some (2,n,p):=by
 unfold enK
 rw[if_neg (by unfold pfxK;simp[nkB])]
 obtain⟨e1,e2⟩:=pk_back h hf
 rw[e1,e2]
theorem en_adr {n:List UInt8} {a:Int} (h:isN n=true) (hf:fault a 32=0):enK (adrK n a)=some (3,n,(a,32)):=by
 have e:adrK n a=[97,47]++n ++ [47]++hxK 8 a.toNat:=rfl
 obtain⟨k1,k2,k3⟩:=kc_at (c:=97) (r:=hxK 8 a.toNat) h
 have hp:pkR ([97,47]++n ++ [47]++hxK 8 a.toNat)=none:=pkR_no' (by simp[kcB])
 have ha:isA a=true:=by
  unfold fault at hf
  split at hf
  ·cases hf
  ·rename_i q
   cases e:isA a
   ·exact absurd (.inr (.inr e)) q
   ·rfl
 have hr:raK ([97,47]++n ++ [47]++hxK 8 a.toNat)=some a:=by
  unfold raK
  rw[if_pos ⟨k1,by rw[k3,hxK_len]⟩,k3,rx_hx]
  unfold isA at ha
  simp only [Bool.and_eq_true,decide_eq_true_eq] at ha
  congr 1
  omega
 unfold enK
 rw[e,if_neg (by simp[nkB]),hp,hr,k2]
theorem pre_iff:∀ (x k:List UInt8),(Op.bytesLess k (x ++ [47])=false/\Op.bytesLess k (x ++ [48])=true) ↔ ∃ r,k=x ++ [47]++r
 | [],k=>by
  cases k with
  | nil=>simp[Op.bytesLess]
  | cons a t=>
   constructor
   ·rintro ⟨h1,h2⟩
    have e:a=47:=by
     have n1:=UInt8.lt_iff_toNat_lt (a:=a) (b:=47)
     have n2:=UInt8.lt_iff_toNat_lt (a:=a) (b:=48)
     rcases Nat.lt_trichotomy a.toNat 47 with g|g|g
     ·have:a<47:=n1.2 g
      simp[Op.bytesLess,this] at h1
     ·exact UInt8.toNat_inj.1 g
     ·have g1:¬ a<48:=fun q=>by have:=n2.1 q;have e8:(48:UInt8).toNat=48:=rfl;omega
      cases t <;> simp[Op.bytesLess,g1] at h2
    exact⟨t,by simp[e]⟩
   ·rintro ⟨r,e⟩
    simp at e
    obtain⟨rfl,rfl⟩:=e
    constructor
    ·cases t <;> simp[Op.bytesLess]
    ·simp[Op.bytesLess]
 | b :: x,k=>by
  cases k with
  | nil=>simp[Op.bytesLess]
  | cons a t=>
   have ih:=pre_iff x t
   constructor
   ·rintro ⟨h1,h2⟩
    have e:a=b:=by
     have n1:=UInt8.lt_iff_toNat_lt (a:=a) (b:=b)
     rcases Nat.lt_trichotomy a.toNat b.toNat with g|g|g
     ·have:a<b:=n1.2 g
      simp[Op.bytesLess,this] at h1
     ·exact UInt8.toNat_inj.1 g
     ·have g1:¬ a<b:=fun q=>by have:=n1.1 q;omega
      have g2:¬ a=b:=fun q=>by rw[q] at g;omega
      simp[Op.bytesLess,g1,g2] at h2
    subst e
    simp[Op.bytesLess,UInt8.lt_irrefl] at h1 h2
    obtain⟨r,hr⟩:=ih.1 ⟨by simpa using h1,by simpa using h2⟩
    exact⟨r,by simp[hr]⟩
   ·rintro ⟨r,e⟩
    simp at e
    obtain⟨rfl,e⟩:=e
    obtain⟨i1,i2⟩:=ih.2 ⟨r,by simpa using e⟩
    simp[Op.bytesLess,UInt8.lt_irrefl,i1,i2]
end Bur
namespace Vs
open Go
theorem btw_pre (c:UInt8) (n k:ByteArray):btw (loK c n) (heK c n) k=true ↔ ∃ r,k.data.toList=[c,47]++n.data.toList ++ [47]++r:=by
 unfold btw bl
 rw[Lib.toList_data,Lib.toList_data,Lib.toList_data,Bool.and_eq_true,Bool.not_eq_true']
 unfold loK heK
 rw[txt_list,txt_list]
 exact Bur.pre_iff ([c,47]++n.data.toList) k.data.toList
theorem rng_pfx {n k:ByteArray} {q:Bur.Sp} (hn:Bur.isN n.data.toList=true):(btw (loK 112 n) (heK 112 n) k=true/\Bur.pkR k.data.toList=some q)↔Bur.enK k.data.toList=some (2,n.data.toList,q):=by
 rw[btw_pre]
 constructor
 ·rintro ⟨⟨r,hr⟩,hq⟩
  obtain⟨_,k2,_⟩:=Bur.kc_at (c:=112) (r:=r) hn
  rw[hr] at hq ⊢
  unfold Bur.enK
  rw[if_neg (by simp[Bur.nkB]),hq,k2]
 ·intro h
  obtain⟨e1,e2⟩:=Bur.en_two h
  obtain⟨e3,_⟩:=Bur.pk_key e1
  rw[e2] at e3
  exact⟨⟨_,e3⟩,e1⟩
theorem rng_adr {n k:ByteArray} {a:Int} (hn:Bur.isN n.data.toList=true):(btw (loK 97 n) (heK 97 n) k=true/\Bur.raK k.data.toList=some a)↔Bur.enK k.data.toList=some (3,n.data.toList,(a,32)):=by
 rw[btw_pre]
 constructor
 ·rintro ⟨⟨r,hr⟩,hq⟩
  obtain⟨_,k2,_⟩:=Bur.kc_at (c:=97) (r:=r) hn
  rw[hr] at hq ⊢
  unfold Bur.enK
  rw[if_neg (by simp[Bur.nkB]),Bur.pkR_no' (by simp[Bur.kcB]),hq,k2]
 ·intro h
  obtain⟨b,e1,e2,e3⟩:=Bur.en_three h
  have:a=b:=congrArg Prod.fst e3
  subst this
  refine⟨?_,e1⟩
  have hk:Bur.kcB 97 k.data.toList=true:=by
   cases q:Bur.kcB 97 k.data.toList
   ·rw[Bur.raK_no q] at e1;cases e1
   ·rfl
  unfold Bur.kcB at hk
  simp only [Bool.and_eq_true,decide_eq_true_eq] at hk
  have hb:=Bur.cutc_back 47 _ hk.2.1
  refine⟨Bur.pkD k.data.toList,?_⟩
  have e2':(Bur.cutc 47 (k.data.toList.drop 2)).1=n.data.toList:=e2
  have hd:k.data.toList.drop 2=n.data.toList++47 :: Bur.pkD k.data.toList:=by
   rw[<- e2']
   exact hb
  calc k.data.toList=k.data.toList.take 2++k.data.toList.drop 2:=(List.take_append_drop 2 _).symm
   _=[97,47]++(n.data.toList++47 :: Bur.pkD k.data.toList):=by rw[hk.1,hd]
   _=_:=by simp
end Vs
