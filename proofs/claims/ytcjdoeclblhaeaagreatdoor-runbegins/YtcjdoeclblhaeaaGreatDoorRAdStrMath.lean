/- -/
import Derived.WalkKit
import Derived.Lib.Strings
import Derived.Test.YtcjdoeclblhaeaaGreatDoorRAdMath
namespace Bur
open Go
def rdGo (most:Int):Int->List UInt8->Option Int
 | n,[]=>some n
 | n,c :: r=>if 48<=c.toNat/\c.toNat<=57 then (if most<10*n+(c.toNat - 48) then none else rdGo most (10*n+(c.toNat - 48)) r) else none
def rd (most:Int) (l:List UInt8):Option Int:=if l=[] \/ (l.head? = some 48/\l ≠ [48]) then none else rdGo most 0 l
def bad (l:List UInt8):Bool:=decide (l=[] \/ (l.head? = some 48/\l ≠ [48]))
theorem rd_bad {most:Int} {l:List UInt8} (h:bad l=true):rd most l=none:=if_pos (of_decide_eq_true h)
theorem rd_good {most:Int} {l:List UInt8} (h:bad l=false):rd most l=rdGo most 0 l:=if_neg (of_decide_eq_false h)
def rdV (most:Int) (l:List UInt8):Int:=(rd most l).getD 0
def rdB (most:Int) (l:List UInt8):Bool:=(rd most l).isSome
theorem rdGo_no {most n:Int} {c:UInt8} {r:List UInt8} (h:c.toNat<48 \/ 57<c.toNat):rdGo most n (c :: r)=none:=by
 simp only [rdGo];rw[if_neg (by omega)]
theorem rdGo_big {most n:Int} {c:UInt8} {r:List UInt8} (h0:48<=c.toNat) (h1:c.toNat<=57) (h:most<10*n+((c.toNat:Int) - 48)):rdGo most n (c :: r)=none:=by
 simp only [rdGo];rw[if_pos ⟨h0,h1⟩,if_pos h]
theorem rdGo_on {most n:Int} {c:UInt8} {r:List UInt8} (h0:48<=c.toNat) (h1:c.toNat<=57) (h:¬ most<10*n+((c.toNat:Int) - 48)):rdGo most n (c :: r)=rdGo most (10*n+((c.toNat:Int) - 48)) r:=by
 simp only [rdGo];rw[if_pos ⟨h0,h1⟩,if_neg h]
theorem rdGo_bd (most:Int):∀ (l:List UInt8) (n m:Int),0<=n->n<=most->rdGo most n l=some m->0<=m/\m<=most
 | [],n,m,h0,h1,h=>by simp[rdGo] at h;omega
 | c :: r,n,m,h0,h1,h=>by
  simp only [rdGo] at h
  split at h
  ·split at h
   ·simp at h
   ·rename_i g1 g2
    exact rdGo_bd most r _ m (by omega) (by omega) h
  ·simp at h
theorem rd_bd {most n:Int} {l:List UInt8} (hm:0<=most) (h:rd most l=some n):0<=n/\n<=most:=by
 unfold rd at h
 split at h
 ·simp at h
 ·exact rdGo_bd most l 0 n (by omega) hm h
theorem rdV_bd (most:Int) (l:List UInt8) (hm:0<=most):0<=rdV most l/\rdV most l<=most:=by
 unfold rdV
 cases h:rd most l with
 | none=>simp;omega
 | some n=>have:=rd_bd hm h;simpa using this
theorem or_byte (x b:Int) (x0:0<=x) (x1:x<=4294967295) (b0:0<=b) (b1:b<=255):bits .or .i64 (x*256) b=x*256+b:=by
 obtain⟨X,rfl⟩:=Int.eq_ofNat_of_zero_le x0
 obtain⟨B,rfl⟩:=Int.eq_ofNat_of_zero_le b0
 have e:((X:Int)*256)=((X*256:Nat):Int):=by omega
 rw[e,i64_or_nat (X*256) B (by omega) (by omega),nat_join 8 (X*256) B (by omega) (by omega)]
 omega
theorem or_zero (b:Int) (b0:0<=b) (b1:b<=255):bits .or .i64 0 b=b:=by
 have:=or_byte 0 b (by omega) (by omega) b0 b1
 simpa using this
end Bur
