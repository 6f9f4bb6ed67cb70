/- -/
import Derived.Test.YtmghmpclmphccaaGreatDoorTAdCutMath
import Derived.Test.YtmghmpclmphccaaGreatDoorTAdBase
import Derived.Test.YtmghmpclmphccaaGreatDoorTShelf
import Derived.Lib.DecodeN
set_option maxHeartbeats 1000000
set_option maxRecDepth 100000
namespace Bur
open Go
def oth (r:Nat):Bool:=decide (r<97) || decide (122<r)
theorem decodeN_big {n b0 b1 b2 b3:Nat} (h:128<=b0):128<=(Lib.decodeN n b0 b1 b2 b3).1:=by
 unfold Lib.decodeN
 rw[if_neg (by omega)]
 repeat' split
 all_goals simp
 all_goals omega
theorem get_at {s:ByteArray} {i:Nat} (h:i<s.size):s.get! i=s[i]:=by
 unfold ByteArray.get!
 exact (getElem!_pos s.data i h)
theorem dec_lz {s:ByteArray} {i:Nat} (h:i<s.size) (hz:lz s[i]=true):Utf8.decode s i=(s[i].toNat,1):=by
 have h2:s[i].toNat<128:=by
  simp only [lz,Bool.and_eq_true,decide_eq_true_eq] at hz
  omega
 rw[Lib.decode_at,get_at h]
 unfold Lib.decodeN
 rw[if_pos h2]
theorem dec_oth {s:ByteArray} {i:Nat} (h:i<s.size) (hz:lz s[i]=false):oth (Utf8.decode s i).1=true:=by
 rw[Lib.decode_at,get_at h]
 simp only [lz,Bool.and_eq_false_iff,decide_eq_false_iff_not] at hz
 by_cases h2:s[i].toNat<128
 ·unfold Lib.decodeN
  rw[if_pos h2]
  simp only [oth,Bool.or_eq_true,decide_eq_true_eq]
  omega
 ·have:=decodeN_big (n:=s.size - i) (b1:=(s.get! (i+1)).toNat) (b2:=(s.get! (i+2)).toNat) (b3:=(s.get! (i+3)).toNat) (Nat.le_of_not_lt h2)
  simp only [oth,Bool.or_eq_true,decide_eq_true_eq]
  omega
theorem drop_at (s:ByteArray) (k:Nat) (h:k<s.size):s.data.toList.drop k=s[k] :: s.data.toList.drop (k+1):=by
 have h':k<s.data.toList.length:=by simpa using h
 rw[List.drop_eq_getElem_cons h']
 rfl
theorem idx_from (s:ByteArray):∀ (f pos:Nat),s.size<=pos+f->decide (0<=Lib.idxFuncFrom oth true s f pos) = !((s.data.toList.drop pos).all lz)
 | 0,pos,h=>by
  rw[Lib.idxFuncFrom,List.drop_of_length_le (by simp;omega)];rfl
 | f+1,pos,h=>by
  rw[Lib.idxFuncFrom]
  by_cases hp:pos<s.size
  ·rw[if_pos hp,drop_at s pos hp,List.all_cons]
   cases hz:lz s[pos] with
   | true=>
    have e:=dec_lz hp hz
    have ho:oth s[pos].toNat=false:=by
     simp only [lz,Bool.and_eq_true,decide_eq_true_eq] at hz
     simp only [oth,Bool.or_eq_false_iff,decide_eq_false_iff_not]
     omega
    rw[e]
    simp only
    rw[ho,if_neg (by decide),idx_from s f (pos+1) (by omega),Bool.true_and]
   | false=>
    rw[dec_oth hp hz,if_pos rfl,Bool.false_and]
    simp
  ·rw[if_neg hp,List.drop_of_length_le (by simp;omega)];rfl
theorem idx_oth (s:ByteArray):decide (0<=Lib.idxFunc oth true s) = !(s.data.toList.all lz):=idx_from s s.size 0 (by omega)
def nmF (l:List UInt8):Int:=if isN l=true then 0 else 5
end Bur
namespace Go.Proofs.YtmghmpclmphccaaGreatDoor.Pa
open Go.RowKit
theorem str_e (t:ByteArray):t.toList.isEmpty=decide (t.size=0):=by
 by_cases h:t.size=0
 ·have:t=ByteArray.empty:=ByteArray.ext (Array.eq_empty_of_size_eq_zero h)
  subst this
  rw[decide_eq_true h,Lib.toList_data];rfl
 ·rw[decide_eq_false h,Lib.toList_data]
  cases e:t.data.toList with
  | nil=>exact absurd (by have:t.data.toList.length=0:=by rw[e];rfl
                          simpa using this) h
  | cons x r=>rfl
theorem pkOther (r:Nat) (w:World):Calls Tryz.prog 52 #[.int .i32 (r:Int)] w fun e w'=>e=.returned (.bool (Bur.oth r)) /\ ∃ q,w'=w.drewN q:=by
 have e1:decide ((r:Int)<97)=decide (r<97):=decide_eq_decide.2 (by omega)
 have e2:decide (122<(r:Int))=decide (122<r):=decide_eq_decide.2 (by omega)
 unfold Bur.oth
 by_cases h1:r<97
 ·have h1':(r:Int)<97:=by omega
  rw[decide_eq_true h1,Bool.true_or]
  clear e1 e2 h1
  go_enter Tryz.func52,Tryz.ntmps52
  go_wp2
  go_ret
  exact⟨rfl,0,rfl⟩
 ·have h1':¬ (r:Int)<97:=by omega
  rw[decide_eq_false h1,Bool.false_or,<- e2]
  clear e1 e2 h1
  go_enter Tryz.func52,Tryz.ntmps52
  go_wp2
  go_ret
  exact⟨rfl,0,rfl⟩
theorem plName (s:ByteArray) (w:World):Calls Tryz.prog 26 #[.string s] w fun e w'=>e=.returned (ev (Bur.nmF s.data.toList))/\Below w.heap.size w w':=by
 have hsz:s.data.toList.length=s.size:=by simp
 have hE:=str_e s
 unfold Bur.nmF Bur.isN
 rw[hsz]
 by_cases h0:s.size=0
 ·rw[decide_eq_true h0] at hE
  rw[if_neg (by simp[h0]),ev_ne (by decide)]
  clear h0 hsz
  go_enter Tryz.func26,Tryz.ntmps26
  go_wp2
  go_ret
  exact⟨rfl,below_self _⟩
 ·rw[decide_eq_false h0] at hE
  by_cases h8:8<s.size
  ·have h8':(8:Int)<(s.size:Int):=by omega
   rw[if_neg (by simp;omega),ev_ne (by decide)]
   clear h0 hsz
   go_enter Tryz.func26,Tryz.ntmps26
   go_wp2
   go_ret
   exact⟨rfl,below_self _⟩
  ·have h8':¬ (8:Int)<(s.size:Int):=by omega
   have hC:=fun W:World=>Tryz.strings_ContainsFunc 52 #[] (enters_of Tryz.func52 (by kernel_rfl) rfl) Bur.oth s W (fun W' x _=>pkOther x W')
   simp only [Bur.idx_oth] at hC
   rw[decide_eq_true (show 0<s.size by omega),decide_eq_true (show s.size<=8 by omega),Bool.true_and,Bool.true_and]
   cases ha:s.data.toList.all Bur.lz with
   | true=>
    rw[ha] at hC
    rw[if_pos rfl,ev_0]
    clear h0 hsz h8 ha
    go_enter Tryz.func26,Tryz.ntmps26
    go_wp2_with fail
    refine (hC _).mono ?_
    rintro e w1 ⟨rfl,hb1⟩
    go_wp2
    go_ret
    exact⟨rfl,hb1⟩
   | false=>
    rw[ha] at hC
    rw[if_neg (by simp),ev_ne (by decide)]
    clear h0 hsz h8 ha
    go_enter Tryz.func26,Tryz.ntmps26
    go_wp2_with fail
    refine (hC _).mono ?_
    rintro e w1 ⟨rfl,hb1⟩
    go_wp2
    go_ret
    exact⟨rfl,hb1⟩
end Go.Proofs.YtmghmpclmphccaaGreatDoor.Pa
namespace Bur
end Bur
namespace Go.Proofs.YtmghmpclmphccaaGreatDoor.Pa
open Go.RowKit
theorem cat {x y z:List UInt8} (h:z=x++y) (hx:x.length<=1000000) (hy:y.length<=1000000):∀ w:World,(Op.stringOp .add ⟨x.toArray⟩ ⟨y.toArray⟩).run Tryz.prog w=.ok (.string ⟨z.toArray⟩) w:=by
 intro w
 subst h
 exact run_string_add_lists w x y (by omega) (by omega)
theorem bytes_eq (s:ByteArray):(⟨s.data.toList.toArray⟩:ByteArray)=s:=by simp
abbrev hexs:Value:=.string ⟨#[48,49,50,51,52,53,54,55,56,57,97,98,99,100,101,102]⟩
end Go.Proofs.YtmghmpclmphccaaGreatDoor.Pa
