/- -/
import Derived.Test.YtmghmpclmphccaaGreatDoorTPkE
import Derived.Test.YtmghmpclmphccaaGreatDoorTAdCutMath
import Derived.Test.YtmghmpclmphccaaGreatDoorTAppOne
import Derived.Test.YtmghmpclmphccaaGreatDoorTAdBase
namespace Go.Proofs.YtmghmpclmphccaaGreatDoor.Pa
open Go.RowKit Vs
theorem plSingle (a:Int) (w:World):Calls Tryz.prog 94 #[.int .i64 a] w fun e w'=>e=.returned (pfx a 32)/\Below w.heap.size w w':=by
 go_enter Tryz.func94,Tryz.ntmps94
 go_wp2
 exact bodyPost_ret (v:=pfx a 32) (by simp[results,Tryz.results94,go_sem]) rfl ⟨rfl,below_al (below_self _) _⟩
theorem plWithin (a l b m:Int) (w:World):Calls Tryz.prog 193 #[pfx a l,pfx b m] w fun e w'=>e=.returned (.bool (Bur.witB a l b m))/\Below w.heap.size w w':=by
 have K:=fun w'=>within_any a l b m w'
 have b0:=below_al (below_al (below_self w) (.cells #[.int .i64 a,.int .i64 l] 31)) (.cells #[.int .i64 b,.int .i64 m] 31)
 generalize Bur.witB a l b m=R at K ⊢
 generalize Bur.witF a l b m=G at K
 go_enter Tryz.func193,Tryz.ntmps193
 go_wp2_with (go_at_call 17;refine (K _).mono ?_;rintro e w' ⟨rfl,hb⟩)
 go_ret
 exact⟨rfl,below_via b0 hb⟩
theorem plStretch (c:UInt8) (n:ByteArray) (w:World) (hs:n.size<=1000):Calls Tryz.prog 191 #[.string ⟨#[c,47]⟩,.string n] w fun e w'=>e=.returned (.tuple #[.string (loK c n),.string (heK c n)])/\w'=w:=by
 have K:=plHead [c,47] n w (Nat.le_refl 2) hs
 change Calls Tryz.prog _ #[.string ⟨#[c,47]⟩,_] _ _ at K
 have e1:(⟨([c,47]++n.data.toList ++ [47]).toArray⟩:ByteArray)=loK c n:=rfl
 rw[e1] at K
 have h1:(⟨#[c,47]⟩:ByteArray).size+n.size<=9223372036854775807:=by show 2+n.size<=_;omega
 have e2:((⟨#[c,47]⟩:ByteArray)++n)++(⟨#[48]⟩:ByteArray)=heK c n:=by
  apply ByteArray.ext
  simp[heK,txt,ByteArray.data_append]
 have h2:((⟨#[c,47]⟩:ByteArray)++n).size+(⟨#[48]⟩:ByteArray).size<=9223372036854775807:=by
  simp only [ByteArray.size_append]
  show 2+n.size+1<=_
  omega
 have E2:Hid _:=e2
 clear e1 e2
 generalize loK c n=X at K ⊢
 go_enter Tryz.func191,Tryz.ntmps191
 go_wp2_with (go_at_call 189;refine K.mono ?_;rintro e w' ⟨rfl,hw⟩;have:=hw.symm;subst this)
 go_ret2
 exact⟨by rw[<- E2.out];rfl,rfl⟩
end Go.Proofs.YtmghmpclmphccaaGreatDoor.Pa
