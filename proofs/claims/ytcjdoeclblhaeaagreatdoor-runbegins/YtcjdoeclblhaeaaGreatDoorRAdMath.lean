/- -/
import Derived.WalkKit
import Derived.Lib.BitFns
namespace Bur
open Go
def isA (a:Int):Bool:=decide (0<=a)&&decide (a<=4294967295)
theorem isA_true {a:Int} (h:isA a=true):0<=a/\a<=4294967295:=by simpa [isA] using h
theorem isA_mk {a:Int} (h0:0<=a) (h1:a<=4294967295):isA a=true:=by simp[isA,h0,h1]
def sz (n:Int):Int:=2 ^ (32 - n).toNat
theorem sz_pos (n:Int):0<sz n:=by unfold sz;exact Int.pow_pos (by decide)
theorem sz_le (n:Int) (h:0<=n):sz n<=4294967296:=by
 unfold sz
 have:(32 - n).toNat<=32:=by omega
 have h2:(2:Nat) ^ (32 - n).toNat<=2 ^ 32:=Nat.pow_le_pow_right (by decide) this
 have h3:((2:Int) ^ (32 - n).toNat)=((2 ^ (32 - n).toNat:Nat):Int):=by simp
 rw[h3];have:(2:Nat) ^ 32=4294967296:=by decide
 omega
theorem sz_nat (n:Int):sz n=((2 ^ (32 - n).toNat:Nat):Int):=by unfold sz;simp
def fault (a l:Int):Int:=if l<0 \/ 32<l \/ isA a=false then 1 else if a % sz l=0 then 0 else 2
theorem fault_ok {a l:Int} (h:fault a l=0):0<=l/\l<=32/\0<=a/\a<=4294967295/\a % sz l=0:=by
 unfold fault at h
 split at h
 ·omega
 ·rename_i h1
  split at h
  ·rename_i h2
   have:isA a=true:=by cases hh:isA a <;> simp_all
   have:=isA_true this
   omega
  ·omega
theorem fault_mk {a l:Int} (h1:0<=l) (h2:l<=32) (h3:isA a=true) (h4:a % sz l=0):fault a l=0:=by
 unfold fault
 rw[if_neg (by simp[h3];omega),if_pos h4]
theorem fault_cases (a l:Int):(fault a l=1/\(l<0 \/ 32<l \/ isA a=false)) \/ (fault a l=2/\0<=l/\l<=32/\isA a=true/\a % sz l≠0) \/ (fault a l=0/\0<=l/\l<=32/\isA a=true/\a % sz l=0):=by
 unfold fault
 by_cases h:l<0 \/ 32<l \/ isA a=false
 ·left;rw[if_pos h];exact⟨rfl,h⟩
 ·right
  rw[if_neg h]
  have h0:isA a=true:=by cases hh:isA a <;> simp_all
  by_cases h2:a % sz l=0
  ·right;rw[if_pos h2];exact⟨rfl,by omega,by omega,h0,h2⟩
  ·left;rw[if_neg h2];exact⟨rfl,by omega,by omega,h0,h2⟩
theorem wrap_i64_id (n:Int) (h0:0<=n) (h1:n<9223372036854775808):IntKind.i64.wrap n=n:=by
 simp[IntKind.wrap,IntKind.bits,IntKind.signed];omega
theorem i64_and_nat (a b:Nat) (ha:a<9223372036854775808) (hb:b<9223372036854775808):bits .and .i64 (a:Int) (b:Int)=((a &&& b:Nat):Int):=by
 have hx:a &&& b<2 ^ 63:=Nat.and_lt_two_pow _ (by omega)
 show IntKind.i64.wrap ((BitVec.ofInt 64 (a:Int) &&& BitVec.ofInt 64 (b:Int)).toNat:Int)=_
 rw[BitVec.toNat_and,ofInt_u64 a (by omega),ofInt_u64 b (by omega)]
 exact wrap_i64_id _ (by omega) (by omega)
theorem i64_or_nat (a b:Nat) (ha:a<9223372036854775808) (hb:b<9223372036854775808):bits .or .i64 (a:Int) (b:Int)=((a ||| b:Nat):Int):=by
 have hx:a ||| b<2 ^ 63:=Nat.or_lt_two_pow (by omega) (by omega)
 show IntKind.i64.wrap ((BitVec.ofInt 64 (a:Int) ||| BitVec.ofInt 64 (b:Int)).toNat:Int)=_
 rw[BitVec.toNat_or,ofInt_u64 a (by omega),ofInt_u64 b (by omega)]
 exact wrap_i64_id _ (by omega) (by omega)
theorem i64_andNot_nat (a b:Nat) (ha:a<9223372036854775808) (hb:b<9223372036854775808):bits .andNot .i64 (a:Int) (b:Int)=((a &&& (18446744073709551615 - b):Nat):Int):=by
 have hx:a &&& (18446744073709551615 - b)<2 ^ 63:=by
  have:=@Nat.and_le_left a (18446744073709551615 - b);omega
 show IntKind.i64.wrap ((BitVec.ofInt 64 (a:Int) &&& ~~~BitVec.ofInt 64 (b:Int)).toNat:Int)=_
 rw[BitVec.toNat_and,BitVec.toNat_not,ofInt_u64 a (by omega),ofInt_u64 b (by omega)]
 have e:2 ^ 64 - 1 - b=18446744073709551615 - b:=by omega
 rw[e]
 exact wrap_i64_id _ (by omega) (by omega)
theorem pow_lt (k:Nat) (hk:k<=32):(2:Nat) ^ k<=4294967296:=by
 have h2:(2:Nat) ^ k<=2 ^ 32:=Nat.pow_le_pow_right (by decide) hk
 have:(2:Nat) ^ 32=4294967296:=by decide
 omega
theorem and_mask (a n:Int) (h0:0<=a) (h1:a<=4294967295) (hn:0<=n):bits .and .i64 a (sz n - 1)=a % sz n:=by
 obtain⟨A,rfl⟩:=Int.eq_ofNat_of_zero_le h0
 have hk:=pow_lt (32 - n).toNat (by omega)
 have hp:0<(2:Nat) ^ (32 - n).toNat:=Nat.pow_pos (by decide)
 rw[sz_nat,show (((2 ^ (32 - n).toNat:Nat):Int) - 1)=((2 ^ (32 - n).toNat - 1:Nat):Int) from by omega]
 rw[i64_and_nat A _ (by omega) (by omega),Nat.and_two_pow_sub_one_eq_mod]
 omega
theorem andNot_mask (a n:Int) (h0:0<=a) (h1:a<=4294967295) (hn:0<=n):bits .andNot .i64 a (sz n - 1)=a - a % sz n:=by
 obtain⟨A,rfl⟩:=Int.eq_ofNat_of_zero_le h0
 have hk:=pow_lt (32 - n).toNat (by omega)
 have hp:0<(2:Nat) ^ (32 - n).toNat:=Nat.pow_pos (by decide)
 rw[sz_nat,show (((2 ^ (32 - n).toNat:Nat):Int) - 1)=((2 ^ (32 - n).toNat - 1:Nat):Int) from by omega]
 rw[i64_andNot_nat A _ (by omega) (by omega)]
 have e:18446744073709551615 - (2 ^ (32 - n).toNat - 1)=2 ^ 64 - 2 ^ (32 - n).toNat:=by omega
 rw[e,nat_midmask 64 (32 - n).toNat A (by omega)]
 rw[Nat.mod_eq_of_lt (by omega)]
 have:=Nat.div_add_mod A (2 ^ (32 - n).toNat)
 rw[Nat.mul_comm] at this
 omega
theorem or_mask (a n:Int) (h0:0<=a) (h1:a<=4294967295) (hn:0<=n) (hm:a % sz n=0):bits .or .i64 a (sz n - 1)=a+(sz n - 1):=by
 obtain⟨A,rfl⟩:=Int.eq_ofNat_of_zero_le h0
 have hk:=pow_lt (32 - n).toNat (by omega)
 have hp:0<(2:Nat) ^ (32 - n).toNat:=Nat.pow_pos (by decide)
 rw[sz_nat] at hm ⊢
 rw[show (((2 ^ (32 - n).toNat:Nat):Int) - 1)=((2 ^ (32 - n).toNat - 1:Nat):Int) from by omega]
 rw[i64_or_nat A _ (by omega) (by omega),nat_join (32 - n).toNat A _ (by omega) (by omega)]
 omega
/-! The common prefix of two addresses. -/
def bl (a b:Int):Int:=(Lib.bitLen (a.toNat ^^^ b.toNat):Int)
end Bur
namespace Bur
open Go
theorem bitLenAux_le:∀ (f x k:Nat),x<2 ^ f->(Lib.bitLenAux f x<=k↔x<2 ^ k)
 | 0,x,k,hx=>by
  have:x=0:=by simpa using hx
  subst this
  simp[Lib.bitLenAux,Nat.pow_pos]
 | f+1,x,k,hx=>by
  simp only [Lib.bitLenAux]
  by_cases h0:x=0
  ·subst h0;simp[Nat.pow_pos]
  ·rw[if_neg h0]
   cases k with
   | zero=>simp;exact h0
   | succ k=>
    have:=bitLenAux_le f (x / 2) k (by rw[Nat.pow_succ] at hx;omega)
    rw[Nat.pow_succ]
    omega
theorem bitLen_le_iff (x k:Nat) (hx:x<2 ^ 64):Lib.bitLen x<=k↔x<2 ^ k:=bitLenAux_le 64 x k hx
end Bur
namespace Bur
open Go
theorem last_le {a l:Int} (h0:0<=l) (h1:l<=32) (a0:0<=a) (a1:a<=4294967295) (hz:a % sz l=0):a+(sz l - 1)<=4294967295:=by
 have hp:=sz_pos l
 have hw:sz l*2 ^ l.toNat=4294967296:=by
  unfold sz
  rw[<- Int.pow_add,show (32 - l).toNat+l.toNat=32 from by omega];rfl
 obtain⟨q,hq⟩:=Int.dvd_of_emod_eq_zero hz
 have hlt:sz l*q<sz l*2 ^ l.toNat:=by rw[hw,<- hq];omega
 have hq1:q<2 ^ l.toNat:=Int.lt_of_mul_lt_mul_left hlt (Int.le_of_lt hp)
 have:sz l*(q+1)<=sz l*2 ^ l.toNat:=Int.mul_le_mul_of_nonneg_left (by omega) (Int.le_of_lt hp)
 rw[hw,Int.mul_add,<- hq] at this
 omega
end Bur
namespace Bur
open Go
def inB (a l a2 l2:Int):Bool:=decide (a2<=a)&&decide (a+sz l<=a2+sz l2)
theorem sz_mul {l l2:Int} (h1:l<=32) (h:l2<=l):sz l2=sz l*2 ^ (l - l2).toNat:=by
 unfold sz
 rw[<- Int.pow_add,show (32 - l).toNat+(l - l2).toNat=(32 - l2).toNat from by omega]
theorem sz_lt {l l2:Int} (h2:l2<=32) (h:l<l2):sz l2<sz l:=by
 have e:=sz_mul h2 (Int.le_of_lt h)
 have hp:=sz_pos l2
 have:(2:Int)<=2 ^ (l2 - l).toNat:=by
  rw[show (l2 - l).toNat=((l2 - l).toNat - 1)+1 from by omega,Int.pow_succ]
  have:(0:Int)<2 ^ ((l2 - l).toNat - 1):=Int.pow_pos (by decide)
  omega
 have h2:=Int.mul_le_mul_of_nonneg_left this (Int.le_of_lt hp)
 omega
theorem within_eq {a l a2 l2:Int} (_h0:0<=l) (h1:l<=32) (hz:a % sz l=0) (_h2:0<=l2) (h3:l2<=32) (hz2:a2 % sz l2=0) :
  inB a l a2 l2=(decide (l2<=l)&&decide (a - a % sz l2=a2)):=by
 have hp:=sz_pos l
 have hp2:=sz_pos l2
 have hm:=Int.emod_nonneg a (Int.ne_of_gt hp2)
 have hl:=Int.emod_lt_of_pos a hp2
 rw[Bool.eq_iff_iff]
 simp only [inB,Bool.and_eq_true,decide_eq_true_eq]
 constructor
 ·rintro ⟨g1,g2⟩
  refine⟨?_,?_⟩
  ·apply Int.not_lt.1
   intro hlt
   have:=sz_lt h3 hlt
   omega
  ·obtain⟨q,hq⟩:=Int.dvd_of_emod_eq_zero hz2
   have:a % sz l2=a - a2:=by
    rw[show a=(a - a2)+sz l2*q from by omega,Int.add_mul_emod_self_left]
    have:=Int.emod_eq_of_lt (a:=a - a2) (b:=sz l2) (by omega) (by omega)
    omega
   omega
 ·rintro ⟨g1,g2⟩
  refine⟨by omega,?_⟩
  have e:=sz_mul h1 g1
  have hd:a % sz l2 % sz l=0:=by
   rw[e,Int.emod_emod_of_dvd _ ⟨2 ^ (l - l2).toNat,rfl⟩];exact hz
  obtain⟨q,hq⟩:=Int.dvd_of_emod_eq_zero hd
  have hlt:sz l*q<sz l*2 ^ (l - l2).toNat:=by rw[<- e,<- hq];exact hl
  have hq1:q<2 ^ (l - l2).toNat:=Int.lt_of_mul_lt_mul_left hlt (Int.le_of_lt hp)
  have h5:sz l*(q+1)<=sz l*2 ^ (l - l2).toNat:=Int.mul_le_mul_of_nonneg_left (by omega) (Int.le_of_lt hp)
  rw[<- e,Int.mul_add,<- hq] at h5
  omega
end Bur
namespace Bur
def endA (a l:Int):Int:=if fault a l=0 then a else 0
def endB (a l:Int):Int:=if fault a l=0 then a+(sz l - 1) else 0
def h32 (a l:Int):Bool:=decide (fault a l=0/\l=32)
def u0 (a l:Int):Bool:=decide (fault a l=0/\l=0)
def witF (a l a2 l2:Int):Int:=if fault a l=0 then fault a2 l2 else fault a l
def witB (a l a2 l2:Int):Bool:=decide (witF a l a2 l2=0)&&inB a l a2 l2
end Bur
namespace Bur
open Go
abbrev Sp:=Int×Int
def spF (a b:Int):Int:=if (isA a&&isA b)=false then 1 else if b<a then 2 else 0
theorem spF_ok {a b:Int} (h:spF a b=0):0<=a/\a<=b/\b<=4294967295:=by
 unfold spF at h
 split at h
 ·omega
 ·split at h
  ·omega
  ·rename_i h1 h2
   have h3:isA a=true/\isA b=true:=by simpa using h1
   have:=isA_true h3.1
   have:=isA_true h3.2
   omega
theorem spF_mk {a b:Int} (h0:0<=a) (h1:a<=b) (h2:b<=4294967295):spF a b=0:=by
 have e1:=isA_mk (a:=a) h0 (by omega)
 have e2:=isA_mk (a:=b) (by omega) h2
 simp[spF,e1,e2];omega
def stF:Int->List Sp->Int
 | _,[]=>0
 | h,s :: r=>if spF s.1 s.2=0 then (if s.1<=h+1 then 2 else stF s.2 r) else spF s.1 s.2
def setF (l:List Sp):Int:=if 64<l.length then 3 else stF (-2) l
def anF:List Sp->Int
 | []=>0
 | s :: r=>if spF s.1 s.2=0 then anF r else spF s.1 s.2
def mem (l:List Sp) (x:Int):Bool:=l.any fun s=>decide (s.1<=x)&&decide (x<=s.2)
theorem mem_nil (x:Int):mem [] x=false:=rfl
theorem mem_cons (s:Sp) (r:List Sp) (x:Int):mem (s :: r) x=((decide (s.1<=x)&&decide (x<=s.2)) || mem r x):=rfl
theorem mem_iff (l:List Sp) (x:Int):mem l x=true ↔ ∃ s∈l,s.1<=x/\x<=s.2:=by simp[mem]
theorem mem_append (l m:List Sp) (x:Int):mem (l++m) x=(mem l x || mem m x):=by simp[mem]
def IsS:Int->List Sp->Prop
 | _,[]=>True
 | h,s :: r=>h+1<s.1/\s.1<=s.2/\IsS s.2 r
def InA (l:List Sp):Prop:=∀ s∈l,0<=s.1/\s.1<=s.2/\s.2<=4294967295
theorem IsS.mono {h k:Int}:∀ {l:List Sp},IsS h l->k<=h->IsS k l
 | [],_,_=>trivial
 | _ :: _,⟨a,b,c⟩,hk=>⟨by omega,b,c⟩
theorem IsS.lo:∀ {l:List Sp} {h x:Int},IsS h l->mem l x=true->h+1<x
 | [],_,_,_,hm=>by simp[mem] at hm
 | s :: r,h,x,⟨a,b,c⟩,hm=>by
  rw[mem_cons] at hm
  cases h1:(decide (s.1<=x)&&decide (x<=s.2)) with
  | true=>simp at h1;omega
  | false=>
   rw[h1] at hm
   have:=IsS.lo c (x:=x) (by simpa using hm)
   omega
theorem IsS.out {l:List Sp} {h x:Int} (hs:IsS h l) (hx:x<=h+1):mem l x=false:=by
 cases e:mem l x with
 | false=>rfl
 | true=>have:=hs.lo e;omega
theorem IsS.uniq:∀ {l m:List Sp} {h:Int},IsS h l->IsS h m->(∀ x,mem l x=mem m x)->l=m
 | [],[],_,_,_,_=>rfl
 | [],t :: q,_,_,⟨_,b,_⟩,e=>by
  have:=e t.1
  rw[mem_cons] at this
  simp[mem_nil,b] at this
 | s :: r,[],_,⟨_,b,_⟩,_,e=>by
  have:=e s.1
  rw[mem_cons] at this
  simp[mem_nil,b] at this
 | s :: r,t :: q,h,hs@⟨a,b,c⟩,ht@⟨a',b',c'⟩,e=>by
  have first:∀ (s:Sp) (r:List Sp),IsS s.2 r -> ∀ x,mem (s :: r) x=true->s.1<=s.2->s.1<=x:=by
   intro s r c x hx hb
   rw[mem_cons] at hx
   cases h1:(decide (s.1<=x)&&decide (x<=s.2)) with
   | true=>simp at h1;omega
   | false=>
    rw[h1] at hx
    have:=c.lo (x:=x) (by simpa using hx)
    omega
  have m1:mem (s :: r) s.1=true:=by rw[mem_cons];simp[b]
  have m2:mem (t :: q) t.1=true:=by rw[mem_cons];simp[b']
  have e1:s.1=t.1:=by
   have g1:=first t q c' s.1 (by rw[<- e];exact m1) b'
   have g2:=first s r c t.1 (by rw[e];exact m2) b
   omega
  have e2:s.2=t.2:=by
   rcases Int.lt_trichotomy s.2 t.2 with g|g|g
   ·have m3:mem (t :: q) (s.2+1)=true:=by
     rw[mem_cons]
     have g1:t.1<=s.2+1:=by omega
     have g2:s.2+1<=t.2:=by omega
     simp only [g1,g2,decide_true,Bool.and_self,Bool.true_or]
    rw[<- e,mem_cons,c.out (x:=s.2+1) (by omega)] at m3
    simp at m3
    omega
   ·exact g
   ·have m3:mem (s :: r) (t.2+1)=true:=by
     rw[mem_cons]
     have g1:s.1<=t.2+1:=by omega
     have g2:t.2+1<=s.2:=by omega
     simp only [g1,g2,decide_true,Bool.and_self,Bool.true_or]
    rw[e,mem_cons,c'.out (x:=t.2+1) (by omega)] at m3
    simp at m3
    omega
  have e3:s=t:=Prod.ext e1 e2
  subst e3
  have e4:r=q:=IsS.uniq c c' fun x=>by
   by_cases hx:x<=s.2
   ·rw[c.out (by omega),c'.out (by omega)]
   ·have:=e x
    rw[mem_cons,mem_cons] at this
    simpa [show decide (x<=s.2)=false from by simp;omega] using this
  rw[e4]
theorem stF_ok:∀ {l:List Sp} {h:Int},stF h l=0->IsS h l/\InA l
 | [],_,_=>⟨trivial,fun _ h=>by cases h⟩
 | s :: r,h,e=>by
  unfold stF at e
  split at e
  ·rename_i h1
   have h2:=spF_ok h1
   split at e
   ·omega
   ·have ih:=stF_ok e
    refine⟨⟨by omega,by omega,ih.1⟩,fun t ht=>?_⟩
    rcases List.mem_cons.1 ht with rfl|ht
    ·omega
    ·exact ih.2 t ht
  ·contradiction
theorem stF_mk:∀ {l:List Sp} {h:Int},IsS h l->InA l->stF h l=0
 | [],_,_,_=>rfl
 | s :: r,h,⟨a,b,c⟩,hi=>by
  have h1:=hi s (by simp)
  unfold stF
  rw[if_pos (spF_mk h1.1 h1.2.1 h1.2.2),if_neg (by omega)]
  exact stF_mk c (fun t ht=>hi t (by simp[ht]))
theorem setF_ok {l:List Sp} (h:setF l=0):l.length<=64/\IsS (-2) l/\InA l:=by
 unfold setF at h
 split at h
 ·omega
 ·exact⟨by omega,stF_ok h⟩
theorem setF_mk {l:List Sp} (h:l.length<=64) (h1:IsS (-2) l) (h2:InA l):setF l=0:=by
 unfold setF
 rw[if_neg (by omega)]
 exact stF_mk h1 h2
theorem InA.range {l:List Sp} (h:InA l) {x:Int} (hx:mem l x=true):0<=x/\x<=4294967295:=by
 obtain⟨s,hs,h1,h2⟩:=(mem_iff l x).1 hx
 have:=h s hs
 omega
def edg (l:List Sp):List Int:=l.flatMap fun s=>[s.1,s.2+1]
theorem edg_nil:edg []=[]:=rfl
theorem edg_cons (s:Sp) (r:List Sp):edg (s :: r)=s.1 :: (s.2+1) :: edg r:=rfl
theorem edg_append (l m:List Sp):edg (l++m)=edg l++edg m:=by simp[edg]
theorem edg_len:∀ l:List Sp,(edg l).length=2*l.length
 | []=>rfl
 | s :: r=>by rw[edg_cons];simp[edg_len r];omega
theorem edg_pos {l:List Sp} (h:InA l):∀ e∈edg l,0<=e/\e<=4294967296:=by
 intro e he
 simp only [edg,List.mem_flatMap] at he
 obtain⟨s,hs,he⟩:=he
 have:=h s hs
 simp at he
 omega
def Chg (p:Int->Bool) (E:List Int):Prop:=∀ x y,x<=y->(∀ e∈E,¬ (x<e/\e<=y))->p x=p y
theorem chg_mem:∀ {l:List Sp} {E:List Int},(∀ e∈edg l,e∈E)->Chg (mem l) E
 | [],_,_,_,_,_,_=>rfl
 | s :: r,E,h,x,y,hxy,hn=>by
  rw[mem_cons,mem_cons,chg_mem (l:=r) (E:=E) (fun e he=>h e (by rw[edg_cons];simp[he])) x y hxy hn]
  have h1:=hn s.1 (h _ (by rw[edg_cons];simp))
  have h2:=hn (s.2+1) (h _ (by rw[edg_cons];simp))
  have e1:decide (s.1<=x)=decide (s.1<=y):=by
   apply decide_eq_decide.2;omega
  have e2:decide (x<=s.2)=decide (y<=s.2):=by
   apply decide_eq_decide.2;omega
  rw[e1,e2]
theorem mem_end {l:List Sp} {x:Int} (h:∀ e∈edg l,e<=x):mem l x=false:=by
 cases e:mem l x with
 | false=>rfl
 | true=>
  obtain⟨s,hs,h1,h2⟩:=(mem_iff l x).1 e
  have:=h (s.2+1) (by simp only [edg,List.mem_flatMap];exact⟨s,hs,by simp⟩)
  omega
def gt (p:Int->Bool):Option Int->List Int->List Sp
 | none,[]=>[]
 | some lo,[]=>[(lo,0)]
 | none,e :: r=>if p e=true then gt p (some e) r else gt p none r
 | some lo,e :: r=>if p e=true then gt p (some lo) r else (lo,e - 1) :: gt p none r
theorem gt_spec (p:Int->Bool):∀ (E:List Int) (c:Int),E.Pairwise (· <= ·)->(∀ e∈E,c<=e) →
  (∀ x y,c<=x->x<=y->(∀ e∈E,¬ (x<e/\e<=y))->p x=p y)->(∀ x,c<=x->(∀ e∈E,e<=x)->p x=false) →
  (p c=false->IsS (c - 1) (gt p none E) /\ ∀ x,c<=x->mem (gt p none E) x=p x) ∧
  (∀ lo,lo<=c->(∀ x,lo<=x->x<=c->p x=true)->(∀ h,h+1<lo->IsS h (gt p (some lo) E)) /\ ∀ x,lo<=x->mem (gt p (some lo) E) x=p x)
 | [],c,_,_,_,hen=>by
  refine⟨fun _=>⟨trivial,fun x hx=>(hen x hx (fun _ h=>by cases h)).symm⟩,fun lo hlo hp=>?_⟩
  have:=hp c hlo (Int.le_refl _)
  rw[hen c (Int.le_refl _) (fun _ h=>by cases h)] at this
  cases this
 | e :: r,c,hs,hc,hch,hen=>by
  have hce:=hc e (by simp)
  have hs':=List.pairwise_cons.1 hs
  obtain⟨ih1,ih2⟩:=gt_spec p r e hs'.2 hs'.1
   (fun x y hx hxy hn=>hch x y (by omega) hxy (fun f hf=>by
    rcases List.mem_cons.1 hf with rfl|hf
    ·omega
    ·exact hn f hf))
   (fun x hx hn=>hen x (by omega) (fun f hf=>by
    rcases List.mem_cons.1 hf with rfl|hf
    ·omega
    ·exact hn f hf))
  have hgap:∀ x,c<=x->x<e->p x=p c:=fun x hx hxe=>(hch c x (Int.le_refl _) hx (fun f hf=>by
   rcases List.mem_cons.1 hf with rfl|hf
   ·omega
   ·have:=hs'.1 f hf;omega)).symm
  refine⟨fun hpc=>?_,fun lo hlo hp=>?_⟩
  ·by_cases hpe:p e=true
   ·have hne:c≠e:=fun h=>by rw[h,hpe] at hpc;cases hpc
    obtain⟨g1,g2⟩:=ih2 e (Int.le_refl _) (fun x h1 h2=>by rw[show x=e from by omega];exact hpe)
    rw[gt,if_pos hpe]
    refine⟨g1 _ (by omega),fun x hx=>?_⟩
    by_cases hxe:e<=x
    ·exact g2 x hxe
    ·rw[hgap x hx (by omega),hpc]
     exact (g1 (e - 2) (by omega)).out (by omega)
   ·have hpe':p e=false:=by simpa using hpe
    obtain⟨g1,g2⟩:=ih1 hpe'
    rw[gt,if_neg hpe]
    refine⟨g1.mono (by omega),fun x hx=>?_⟩
    by_cases hxe:e<=x
    ·exact g2 x hxe
    ·rw[hgap x hx (by omega),hpc]
     exact g1.out (by omega)
  ·have hpc:=hp c hlo (Int.le_refl _)
   by_cases hpe:p e=true
   ·obtain⟨g1,g2⟩:=ih2 lo (by omega) (fun x h1 h2=>by
     by_cases hxc:x<=c
     ·exact hp x h1 hxc
     ·by_cases hxe:x=e
      ·rw[hxe];exact hpe
      ·rw[hgap x (by omega) (by omega)];exact hpc)
    rw[gt,if_pos hpe]
    exact⟨g1,g2⟩
   ·have hpe':p e=false:=by simpa using hpe
    have hne:c≠e:=fun h=>by rw[h,hpe'] at hpc;cases hpc
    obtain⟨g1,g2⟩:=ih1 hpe'
    rw[gt,if_neg hpe]
    refine⟨fun h hh=>⟨hh,by show lo<=e - 1;omega,g1⟩,fun x hx=>?_⟩
    rw[mem_cons]
    by_cases hxe:e<=x
    ·rw[g2 x hxe]
     simp only
     rw[show decide (x<=e - 1)=false from by simp;omega]
     simp
    ·have:decide (lo<=x)=true:=by simp;omega
     have h2:decide (x<=e - 1)=true:=by simp;omega
     simp only [this,h2,Bool.and_self,Bool.true_or]
     by_cases hxc:x<=c
     ·exact (hp x hx hxc).symm
     ·rw[hgap x (by omega) (by omega)];exact hpc.symm
theorem gt_set {p:Int->Bool} {E:List Int} (hs:E.Pairwise (· <= ·)) (h0:∀ e∈E,0<=e) (hch:Chg p E) (hen:∀ x,(∀ e∈E,e<=x)->p x=false) (hlo:∀ x,x<0->p x=false) :
  IsS (-2) (gt p none E) /\ ∀ x,mem (gt p none E) x=p x:=by
 obtain⟨g1,g2⟩:=(gt_spec p E (-1) hs (fun e he=>by have:=h0 e he;omega) (fun x y _ hxy hn=>hch x y hxy hn) (fun x _ hn=>hen x hn)).1 (hlo _ (by omega))
 refine⟨g1.mono (by omega),fun x=>?_⟩
 by_cases hx : -1<=x
 ·exact g2 x hx
 ·rw[hlo x (by omega)];exact g1.out (by omega)
def cnt:List Sp->Int
 | []=>0
 | s :: r=>s.2 - s.1+1+cnt r
def ct (p:Int->Bool):Int->Nat->Int
 | _,0=>0
 | a,n+1=>(if p a=true then 1 else 0)+ct p (a+1) n
theorem ct_congr {p q:Int->Bool}:∀ (n:Nat) (a:Int),(∀ x,a<=x->x<a+n->p x=q x)->ct p a n=ct q a n
 | 0,_,_=>rfl
 | n+1,a,h=>by
  rw[ct,ct,h a (by omega) (by omega),ct_congr n (a+1) (fun x h1 h2=>h x (by omega) (by omega))]
theorem ct_no:∀ (n:Nat) (a:Int),ct (fun _=>false) a n=0
 | 0,_=>rfl
 | n+1,a=>by rw[ct,ct_no n];simp
theorem len_le:∀ (L K:List Int),L.Pairwise (· < ·)->(∀ x∈L,x∈K)->L.length<=K.length
 | [],_,_,_=>by simp
 | x :: L,K,hp,h=>by
  have hp':=List.pairwise_cons.1 hp
  have hx:=h x (by simp)
  have:=len_le L (K.erase x) hp'.2 (fun y hy=>by
   have hlt:=hp'.1 y hy
   exact (List.mem_erase_of_ne (by omega)).2 (h y (by simp[hy])))
  rw[List.length_erase_of_mem hx] at this
  have:0<K.length:=List.length_pos_of_mem hx
  simp only [List.length_cons]
  omega
theorem IsS.lows:∀ {l:List Sp} {h:Int},IsS h l->(l.map (·.1)).Pairwise (· < ·) /\ ∀ x∈l.map (·.1),h+1<x
 | [],_,_=>by simp
 | s :: r,h,⟨a,b,c⟩=>by
  obtain⟨h1,h2⟩:=IsS.lows c
  refine⟨?_,?_⟩
  ·rw[List.map_cons,List.pairwise_cons]
   exact⟨fun x hx=>by have:=h2 x hx;omega,h1⟩
  ·intro x hx
   rw[List.map_cons,List.mem_cons] at hx
   rcases hx with rfl|hx
   ·exact a
   ·have:=h2 x hx;omega
theorem IsS.ahead:∀ {l:List Sp} {h:Int},IsS h l -> ∀ s∈l,mem l (s.1 - 1)=false
 | s :: r,h,⟨a,b,c⟩,t,ht=>by
  rw[mem_cons]
  rcases List.mem_cons.1 ht with rfl|ht
  ·rw[c.out (x:=t.1 - 1) (by omega),show decide (t.1<=t.1 - 1)=false from by simp;omega];rfl
  ·have h1:=(IsS.lows c).2 t.1 (List.mem_map_of_mem ht)
   rw[IsS.ahead c t ht,show decide (t.1 - 1<=s.2)=false from by simp;omega];simp
theorem IsS.le:∀ {l:List Sp} {h:Int},IsS h l -> ∀ s∈l,s.1<=s.2
 | s :: r,h,⟨a,b,c⟩,t,ht=>by
  rcases List.mem_cons.1 ht with rfl|ht
  ·exact b
  ·exact IsS.le c t ht
theorem IsS.mem_hi {l:List Sp} {h:Int} (hs:IsS h l) {s:Sp} (h1:s∈l):mem l s.1=true/\mem l s.2=true:=by
 have h2:=hs.le s h1
 exact⟨(mem_iff _ _).2 ⟨s,h1,by omega,h2⟩,(mem_iff _ _).2 ⟨s,h1,h2,by omega⟩⟩
theorem set_len {l m:List Sp} {h:Int} (hm:IsS h m) (e:∀ x,mem m x=mem l x):m.length<=l.length:=by
 have:=len_le (m.map (·.1)) (l.map (·.1)) hm.lows.1 (fun x hx=>by
  obtain⟨s,hs,rfl⟩:=List.mem_map.1 hx
  have h1:=(hm.mem_hi hs).1
  have h2:=hm.ahead s hs
  rw[e] at h1 h2
  obtain⟨t,ht,g1,g2⟩:=(mem_iff l s.1).1 h1
  by_cases g:t.1=s.1
  ·rw[<- g];exact List.mem_map_of_mem ht
  ·have h3:mem l (s.1 - 1)=true:=(mem_iff l _).2 ⟨t,ht,by omega,by omega⟩
   rw[h3] at h2;cases h2)
 simpa using this
theorem IsS.inA {m:List Sp} {h:Int} (hm:IsS h m) (e:∀ x,mem m x=true->0<=x/\x<=4294967295):InA m:=by
 intro s hs
 have h1:=hm.mem_hi hs
 exact⟨(e _ h1.1).1,hm.le s hs,(e _ h1.2).2⟩
def srt (zs:List Int):List Int:=zs.mergeSort fun x y=>decide (x<=y)
theorem srt_pair (zs:List Int):(srt zs).Pairwise (· <= ·):=by
 have:=List.pairwise_mergeSort (le:=fun x y:Int=>decide (x<=y)) (by intro a b c h1 h2;simp at *;omega) (by intro a b;simp;omega) zs
 exact this.imp (by simp)
theorem mem_srt (zs:List Int) (x:Int):x∈srt zs↔x∈zs:=by simp[srt]
theorem srt_len (zs:List Int):(srt zs).length=zs.length:=by simp[srt]
def gth (p:Int->Bool) (zs:List Int):List Sp:=gt p none (srt zs)
def kp (how:Int) (x y:Bool):Bool:=(decide (how=1)&&(x || y)) || (decide (how=2)&&x&&y) || (decide (how=3)&&x && !y)
theorem kp_no (how:Int):kp how false false=false:=by simp[kp]
def two (how:Int) (a b:List Sp):List Sp:=gth (fun x=>kp how (mem a x) (mem b x)) (edg a++edg b)
def mk (l:List Sp):List Sp:=gth (mem l) (edg l)
theorem two_chg (how:Int) (a b:List Sp) {E:List Int} (h:∀ e,e∈E↔e∈edg a++edg b):Chg (fun x=>kp how (mem a x) (mem b x)) E:=fun x y hxy hn=>by
 have h1:=chg_mem (l:=a) (E:=E) (fun e he=>(h e).2 (by simp[he])) x y hxy hn
 have h2:=chg_mem (l:=b) (E:=E) (fun e he=>(h e).2 (by simp[he])) x y hxy hn
 simp only [h1,h2]
theorem two_end (how:Int) (a b:List Sp) {E:List Int} (h:∀ e,e∈E↔e∈edg a++edg b) (x:Int) (hx:∀ e∈E,e<=x):kp how (mem a x) (mem b x)=false:=by
 rw[mem_end (l:=a) (fun e he=>hx e ((h e).2 (by simp[he]))),mem_end (l:=b) (fun e he=>hx e ((h e).2 (by simp[he]))),kp_no]
theorem mem_neg {l:List Sp} {x:Int} (hi:InA l) (h:x<0):mem l x=false:=by
 cases e:mem l x with
 | false=>rfl
 | true=>have:=hi.range e;omega
theorem edg2_pos {a b:List Sp} (ha:InA a) (hb:InA b) {E:List Int} (h:∀ e,e∈E↔e∈edg a++edg b):∀ e∈E,0<=e:=fun e he=>by
 rcases List.mem_append.1 ((h e).1 he) with g|g
 ·exact (edg_pos ha e g).1
 ·exact (edg_pos hb e g).1
theorem two_set (how:Int) {a b:List Sp} (ha:InA a) (hb:InA b):IsS (-2) (two how a b) /\ ∀ x,mem (two how a b) x=kp how (mem a x) (mem b x):=by
 have h:∀ e,e∈srt (edg a++edg b)↔e∈edg a++edg b:=mem_srt _
 exact gt_set (srt_pair _) (edg2_pos ha hb h) (two_chg how a b h) (two_end how a b h) (fun x hx=>by rw[mem_neg ha hx,mem_neg hb hx,kp_no])
theorem two_inA (how:Int) {a b:List Sp} (ha:InA a) (hb:InA b):InA (two how a b):=by
 obtain⟨g1,g2⟩:=two_set how ha hb
 refine g1.inA fun x hx=>?_
 rw[g2] at hx
 cases e1:mem a x with
 | true=>exact ha.range e1
 | false=>
  cases e2:mem b x with
  | true=>exact hb.range e2
  | false=>rw[e1,e2,kp_no] at hx;cases hx
theorem mk_two (l:List Sp):mk l=two 1 l []:=by
 unfold mk two
 rw[edg_nil,List.append_nil]
 congr 1
 funext x
 simp[kp,mem_nil]
theorem mk_set {l:List Sp} (h:InA l):IsS (-2) (mk l)/\(∀ x,mem (mk l) x=mem l x)/\InA (mk l)/\(mk l).length<=l.length:=by
 have hn:InA []:=fun _ h=>by cases h
 obtain⟨g1,g2⟩:=two_set 1 h hn
 rw[<- mk_two] at g1 g2
 have g3:∀ x,mem (mk l) x=mem l x:=fun x=>by rw[g2];simp[kp,mem_nil]
 exact⟨g1,g3,by rw[mk_two];exact two_inA 1 h hn,set_len g1 g3⟩
end Bur
