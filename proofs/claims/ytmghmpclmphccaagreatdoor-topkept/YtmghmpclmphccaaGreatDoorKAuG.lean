/- -/
import Derived.Test.YtmghmpclmphccaaGreatDoorKAuB
import Derived.Test.YtmghmpclmphccaaGreatDoorKAppOne
import Derived.Test.YtmghmpclmphccaaGreatDoorKTrBase
import Derived.Test.YtmghmpclmphccaaGreatDoorKAdBase
namespace Bur
end Bur
namespace Go.Proofs.YtmghmpclmphccaaGreatDoor.Au
open Go.RowKit Go.Maps Pa
open Ta (SpAt spV spAt_own own_below)
theorem auCheck (L:List Vs.Pr) (p:Option Addr) (cap:Nat) (w:World) (hp:PrAt w p L) (hl:L.length<=1000) (hk:∀ x∈L,x.1.size<4294967281) (hm:MaxL w) :
  Calls Tryz.prog 24 #[.slice p L.length cap] w fun e w'=>e=.returned (.tuple #[.int .i64 (Bur.auP L).1,ev (Bur.auP L).2])/\Below w.heap.size w w':=by
 have K1:=auLook L p cap w hp hl hk hm
 have K2:=fun a b W hb hg=>auChecks L p cap a b W hg (hp.step hb) hl hk (hm.step hb)
 obtain⟨V,hV⟩:∃ V,V=ev (Bur.auP L).2:=⟨_,rfl⟩
 rw[<- hV] at K2 ⊢
 clear hV
 generalize (Bur.auP L).1=i at K2 ⊢
 go_enter Tryz.func24,Tryz.ntmps24
 go_wp2_with (first
  | (go_at_call 38;refine K1.mono ?_;clear K1;rintro e w1 ⟨a,b,rfl,hg,hb1⟩)
  | (go_at_call 39;refine (K2 a b _ hb1 hg).mono ?_;rintro e w2 ⟨rfl,hb2⟩))
 go_ret2
 exact⟨rfl,below_via hb1 hb2⟩
end Go.Proofs.YtmghmpclmphccaaGreatDoor.Au
