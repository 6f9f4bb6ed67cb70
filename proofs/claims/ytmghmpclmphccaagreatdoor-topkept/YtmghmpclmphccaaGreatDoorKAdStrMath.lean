/- -/
import Derived.WalkKit
import Derived.Lib.Strings
import Derived.Test.YtmghmpclmphccaaGreatDoorKAdMath
namespace Bur
open Go
def rdGo (most:Int):Int->List UInt8->Option Int
 | n,[]=>some n
 | n,c :: r=>if 48<=c.toNat/\c.toNat<=57 then (if most<10*n+(c.toNat - 48) then none else rdGo most (10*n+(c.toNat - 48)) r) else none
def rd (most:Int) (l:List UInt8):Option Int:=if l=[] \/ (l.head? = some 48/\l ≠ [48]) then none else rdGo most 0 l
end Bur
