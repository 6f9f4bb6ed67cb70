/- -/
import Derived.Test.YtcjdoeclblhaeaaGreatDoorRCvJoinA
import Derived.Test.YtcjdoeclblhaeaaGreatDoorRCvIter
import Derived.Maps.AppendAt
import Derived.Test.YtcjdoeclblhaeaaGreatDoorRAdBase
import Derived.Test.YtcjdoeclblhaeaaGreatDoorRSpWalkE
import Derived.Test.YtcjdoeclblhaeaaGreatDoorRCvMath
import Derived.Test.YtcjdoeclblhaeaaGreatDoorRSpWalkA
set_option maxHeartbeats 8000000
set_option maxRecDepth 100000
namespace Bur
theorem pnF_at {l:List Sp} {k:Nat} {a z:Int} (h:l.drop k=(a,z) :: l.drop (k+1)):pnF (l.drop k)=if fault a z=0 then pnF (l.drop (k+1)) else fault a z:=by rw[h,pnF]
theorem psF_E (l:List Sp):psF l=if 200<l.length then 3 else if pnF l=0 then (if 64<(mk (pfS l)).length then 3 else 0) else pnF l:=rfl
theorem psS_len (l:List Sp):(psS l).length<=64:=by
 unfold psS
 by_cases h:psF l=0
 ·rw[if_pos h];exact (psF_ok h).2.2
 ·rw[if_neg h];simp
end Bur
namespace Go.Proofs.YtcjdoeclblhaeaaGreatDoor.Sa
open Go.RowKit
theorem coverSpans (p:Option Addr) (cap:Nat) (l:List Bur.Sp) (w:World) (hl:l.length<=9223372036854775807) (hs:SpAt w p l) :
  Calls Tryz.prog 303 #[.slice p l.length cap] w fun e w'=>∃ (q:Option Addr) (cq:Nat),e=.returned (.tuple #[.slice q (Bur.psS l).length cq,ev (Bur.psF l)])/\SpAt w' q (Bur.psS l)/\Below w.heap.size w w':=by
 obtain⟨i0,hin,hz0,hz1,hz2⟩:=info_parts info_span
 have hF:Hid _:=Bur.psF_E l
 by_cases h200:200<l.length
 ·have h200':(200:Int)<(l.length:Int):=by omega
  have F:Hid (Bur.psF l=3):=by show _=_;rw[hF.out,if_pos h200]
  have S:Hid (Bur.psS l=[]):=by show _=_;unfold Bur.psS;rw[if_neg (by rw[F.out];decide)]
  clear hs
  go_enter Tryz.func303,Tryz.ntmps303
  go_wp2_with fail
  go_ret2
  exact⟨none,0,by rw[S.out,F.out];rfl,by rw[S.out];exact SpAt.nil _ _,below_self _⟩
 ·have h200':(l.length:Int)<=200:=by omega
  have hF2:Hid (Bur.psF l=if Bur.pnF l=0 then (if 64<(Bur.mk (Bur.pfS l)).length then 3 else 0) else Bur.pnF l):=by show _=_;rw[hF.out,if_neg h200]
  clear hF
  go_enter Tryz.func303,Tryz.ntmps303
  go_wp2_with fail
  go_loopw [4,17] (fun v i wr=>∃ k:Nat,k<=l.length/\i=.int .i64 k/\Hid (∀ q∈l.take k,Bur.OkP q)/\Hid (Bur.pnF l=Bur.pnF (l.drop k))/\wr.ownsRow w.heap.size 346 2 v k (spV (Bur.pfS (l.take k)))/\Below w.heap.size w wr) (fun _ i _=>l.length - (intOf i).toNat)
  case atStart=>exact⟨0,by omega,rfl,(fun _ h=>by simp at h),rfl,World.ownsRow_nil _ _ _ _,below_self _⟩
  case round=>
   obtain⟨k,hk,rfl,hok,R,hown,hbw⟩:=hrel
   have hsz:=hbw.size
   by_cases hlt:k<l.length
   ·have hlt':(k:Int)<(l.length:Int):=by omega
    obtain⟨b,off,rfl,hbl,hc⟩:=hs (by omega)
    have hcb2:=bcell hbw
    have c0:wr.cell? ⟨b,off+k*2,none⟩=some (.int .i64 (lo l k)):=(hcb2.1 _ _ hbl).trans (hc k hlt).1
    have c1:wr.cell? ⟨b,off+k*2+1,none⟩=some (.int .i64 (hi l k)):=(hcb2.1 _ _ hbl).trans (hc k hlt).2
    have hd0:=drop_sp hlt
    have ht0:l.take (k+1)=l.take k ++ [(lo l k,hi l k)]:=by
     have:l[k]? = some (lo l k,hi l k):=by
      have h:=congrArg (fun t=>t[0]?) hd0
      simpa using h
     rw[List.take_add_one,this];rfl
    obtain⟨a,ha⟩:∃ a,lo l k=a:=⟨_,rfl⟩
    obtain⟨z,hz⟩:∃ z,hi l k=z:=⟨_,rfl⟩
    rw[ha] at c0 hd0 ht0
    rw[hz] at c1 hd0 ht0
    have ht:Hid _:=ht0
    have S:Hid _:=Bur.pnF_at hd0
    clear ha hz hc hcb2 hs hd0 ht0
    obtain⟨W,hW⟩:∃ W,W=wr:=⟨_,rfl⟩
    subst hW
    go_wp2_with fail
    have bA:=below_al hbw (.cells #[.int .i64 a,.int .i64 z] 105)
    have ownA:=hown.alloc (.cells #[.int .i64 a,.int .i64 z] 105)
    refine (ends_any a z _).mono ?_
    rintro e w2 ⟨rfl,hb2⟩
    have own2:=own_below ownA hb2
    have hbw2:=below_via bA hb2
    clear hb2 bA ownA hown hbw c0 c1
    by_cases hf:Bur.fault a z=0
    ·have e1:Hid (ev (Bur.fault a z)=.nilIface):=by show _=_;rw[hf];rfl
     have e2:Hid (Bur.endA a z=a):=if_pos hf
     have e3:Hid (Bur.endB a z=a+(Bur.sz z - 1)):=if_pos hf
     rw[e1.out,e2.out,e3.out]
     have R2:Hid (Bur.pnF l=Bur.pnF (l.drop (k+1))):=by show _=_;rw[R.out,S.out,if_pos hf]
     have hok2:Hid (∀ q∈l.take (k+1),Bur.OkP q):=by
      show ∀ _,_
      intro q hq
      rw[ht.out] at hq
      rcases List.mem_append.1 hq with h|h
      ·exact hok.out q h
      ·rw[List.mem_singleton.1 h];exact hf
     have hrow:Hid (spV (Bur.pfS (l.take (k+1)))=spV (Bur.pfS (l.take k)) ++ [.int .i64 a,.int .i64 (a+(Bur.sz z - 1))]):=by
      show _=_
      rw[ht.out,show Bur.pfS (l.take k ++ [(a,z)])=Bur.pfS (l.take k) ++ [(a,a+(Bur.sz z - 1))] from by simp[Bur.pfS,Bur.pS],spV_app];rfl
     obtain⟨y,hy⟩:∃ y,a+(Bur.sz z - 1)=y:=⟨_,rfl⟩
     rw[hy] at hrow ⊢
     have hsz2:=hbw2.size
     clear R S ht hok hf e1 e2 e3 hy
     go_wp2_with (at_builtin;refine wpList_append_own _ rfl _ _ 342 rfl w.heap.size 346 i0 (.agg #[.int .i64 0,.int .i64 0]) 2 16 Tryz.underlying342 hin hz0 hz1 hz2 rfl (by decide) _ _ _ rfl (own2.alloc _) ⟨w2.heap.size,0,none⟩ 1 1 [.int .i64 a,.int .i64 y] rfl rfl (two_new rfl) two_one (by unfold maxLen;omega) (by omega) (by simp;omega) ?_;intro v' w3 hown3 hgrow _;have hb4:Below w.heap.size w w3:=(below_al hbw2 _).grown hgrow (by simp;omega) (fun j hj=>(own2.lt j hj).1);clear hgrow own2)
     exact⟨⟨k+1,by omega,by go_num,hok2,R2,by rw[hrow.out];exact hown3,hb4⟩,by simp[intOf];omega⟩
    ·have e1:Hid (ev (Bur.fault a z)=errN (Bur.fault a z)):=ev_ne hf
     have hP:Bur.pnF l=Bur.fault a z:=by rw[R.out,S.out,if_neg hf]
     have F:Hid (Bur.psF l=Bur.fault a z):=by show _=_;rw[hF2.out,hP,if_neg hf]
     have Sn:Hid (Bur.psS l=[]):=by show _=_;unfold Bur.psS;rw[F.out,if_neg hf]
     rw[e1.out]
     clear hP own2 R S ht hok hf hF2
     go_wp2_with fail
     go_ret2
     exact⟨none,0,by rw[Sn.out,F.out,e1.out];rfl,by rw[Sn.out];exact SpAt.nil _ _,hbw2⟩
   ·have hkl:k=l.length:=by omega
    have htk:l.take k=l:=List.take_of_length_le (by omega)
    rw[htk] at hok hown
    have hP:Bur.pnF l=0:=Bur.pnF_mk hok.out
    have hA:=Bur.pfS_inA hok.out
    have hlen:(Bur.pfS l).length=k:=by rw[hkl];simp[Bur.pfS]
    have hF3:Hid (Bur.psF l=if 64<(Bur.mk (Bur.pfS l)).length then 3 else 0):=by show _=_;rw[hF2.out,if_pos hP]
    rw[<- hlen] at hown
    clear R hok htk hP hF2 hs
    go_wp2_with fail
    refine (join _ w.heap.size (Bur.pfS l) wr hown hsz (by rw[hlen];omega) hA).mono ?_
    rintro e w2 ⟨q,cq,rfl,st,hb2⟩
    have hbw2:=hbw.trans hb2
    clear hown hb2 hbw hA
    obtain⟨n,hn⟩:∃ n,Hid ((Bur.mk (Bur.pfS l)).length=n):=⟨_,rfl⟩
    rw[hn.out]
    by_cases h64:64<n
    ·have h64':(64:Int)<(n:Int):=by omega
     have F:Hid (Bur.psF l=3):=by show _=_;rw[hF3.out,hn.out,if_pos h64]
     have S:Hid (Bur.psS l=[]):=by show _=_;unfold Bur.psS;rw[if_neg (by rw[F.out];decide)]
     clear st
     go_wp2_with fail
     go_ret2
     exact⟨none,0,by rw[S.out,F.out];rfl,by rw[S.out];exact SpAt.nil _ _,hbw2⟩
    ·have h64':(n:Int)<=64:=by omega
     have F:Hid (Bur.psF l=0):=by show _=_;rw[hF3.out,hn.out,if_neg h64]
     have S:Hid (Bur.psS l=Bur.mk (Bur.pfS l)):=by show _=_;unfold Bur.psS;rw[if_pos F.out]
     go_wp2_with fail
     go_ret2
     exact⟨q,cq,by rw[S.out,F.out,hn.out];rfl,by rw[S.out];exact st,hbw2⟩
theorem sp_one (w:World) (t:Nat) (a z:Int):SpAt (w.alloc (.cells #[.int .i64 a,.int .i64 z] t)) (some ⟨w.heap.size,0,none⟩) [(a,z)]:=fun _=>⟨w.heap.size,0,rfl,by simp,fun i hi=>by
 match i,hi with
 | 0,_=>exact⟨by simp;rfl,by simp;rfl⟩⟩
end Go.Proofs.YtcjdoeclblhaeaaGreatDoor.Sa
namespace Bur
theorem twF_gps {p:Sp} {l:List Sp} (h:frF p l=0):twF 3 [pS p] (psS l)=0/\twS 3 [pS p] (psS l)=gps p l:=by
 obtain⟨h1,h2,h3,h4,h5⟩:=gps_ps h
 have e:twF 3 [pS p] (psS l)=0:=by
  unfold twF
  rw[if_pos h3,if_pos h4,h1,if_neg (by omega)]
 exact⟨e,by unfold twS;rw[if_pos e,h1]⟩
end Bur
namespace Go.Proofs.YtcjdoeclblhaeaaGreatDoor.Sa
open Go.RowKit
theorem gaps (a z:Int) (p:Option Addr) (cap:Nat) (l:List Bur.Sp) (w:World) (hl:l.length<=9223372036854775807) (hs:SpAt w p l) :
  Calls Tryz.prog 288 #[pfx a z,.slice p l.length cap] w fun e w'=>∃ (q:Option Addr) (cq:Nat),e=.returned (.tuple #[.slice q (Bur.gpS (a,z) l).length cq,ev (Bur.frF (a,z) l)])/\SpAt w' q (Bur.gpS (a,z) l)/\Below w.heap.size w w':=by
 have hb0:Below w.heap.size w (w.alloc (.cells #[.int .i64 a,.int .i64 z] 105)):=below_al (below_self _) _
 go_enter Tryz.func288,Tryz.ntmps288
 go_wp2_with fail
 refine (ends_any a z _).mono ?_
 rintro e w1 ⟨rfl,hb1⟩
 have hs1:=hs.step (below_via hb0 hb1)
 by_cases hf:Bur.fault a z=0
 ·have e1:Hid (ev (Bur.fault a z)=.nilIface):=by show _=_;rw[hf];rfl
  have e2:Hid (Bur.endA a z=a):=if_pos hf
  have e3:Hid (Bur.endB a z=a+(Bur.sz z - 1)):=if_pos hf
  rw[e1.out,e2.out,e3.out]
  by_cases h60:60<l.length
  ·have h60':(60:Int)<(l.length:Int):=by omega
   have F:Hid (Bur.frF (a,z) l=3):=Bur.frF_3 hf h60
   have S:Hid (Bur.gpS (a,z) l=[]):=by show _=_;unfold Bur.gpS;rw[F.out];rfl
   clear hf
   go_wp2_with fail
   go_ret2
   exact⟨none,0,by rw[S.out,F.out];rfl,by rw[S.out];exact SpAt.nil _ _,below_via hb0 hb1⟩
  ·have h60':(l.length:Int)<=60:=by omega
   have F:Hid (Bur.frF (a,z) l=Bur.psF l):=Bur.frF_l hf (by omega)
   have P:Hid (Bur.pS (a,z)=(a,a+(Bur.sz z - 1))):=rfl
   clear hf e1 e2 e3
   obtain⟨y,hy⟩:∃ y,a+(Bur.sz z - 1)=y:=⟨_,rfl⟩
   rw[hy] at P ⊢
   clear hy
   go_wp2_with fail
   refine (coverSpans p cap l w1 hl hs1).mono ?_
   rintro e w2 ⟨q,cq,rfl,sq,hb2⟩
   have hb3:=below_via (below_via hb0 hb1) hb2
   clear hb0 hb1 hb2 hs1 hs
   by_cases hg:Bur.psF l=0
   ·have F2:Bur.frF (a,z) l=0:=F.out.trans hg
    obtain⟨t1,t2⟩:=Bur.twF_gps F2
    rw[P.out] at t1 t2
    have S2:Hid (Bur.gpS (a,z) l=Bur.gps (a,z) l):=by show _=_;unfold Bur.gpS;rw[if_pos F2]
    have E1:Hid (ev (Bur.psF l)=.nilIface):=by show _=_;rw[hg];rfl
    have F3:Hid (Bur.frF (a,z) l=0):=F2
    have hpl:=Bur.psS_len l
    have c:=fun w s=>spanMinus (some ⟨w2.heap.size,0,none⟩) 1 [(a,y)] q cq (Bur.psS l) w (by simp) (by omega) s
    rw[t1,t2] at c
    have s0:=sp_one w2 346 a y
    have sq2:=sq.alloc (.cells #[.int .i64 a,.int .i64 y] 346)
    have hb4:=below_al hb3 (.cells #[.int .i64 a,.int .i64 y] 346)
    have c2:=c _ s0 sq2
    rw[show ([(a,y)]:List Bur.Sp).length=1 from rfl] at c2
    rw[E1.out]
    clear hg F F2 t1 t2 P c s0 sq sq2 hb3
    obtain⟨G,hG⟩:∃ G,Bur.gps (a,z) l=G:=⟨_,rfl⟩
    rw[hG] at S2 c2
    clear hG
    go_wp2_with fail
    refine c2.mono ?_
    rintro e w3 ⟨r,cr,rfl,sr,hb5⟩
    have hb6:=below_via hb4 hb5
    clear hb4 hb5 c2
    go_wp2_with fail
    go_ret2
    exact⟨r,cr,by rw[S2.out,F3.out];rfl,by rw[S2.out];exact sr,hb6⟩
   ·have E1:Hid (ev (Bur.psF l)=errN (Bur.psF l)):=ev_ne hg
    have S2:Hid (Bur.gpS (a,z) l=[]):=by show _=_;unfold Bur.gpS;rw[F.out,if_neg hg]
    rw[E1.out]
    clear hg sq
    go_wp2_with fail
    go_ret2
    exact⟨none,0,by rw[S2.out,F.out,E1.out];rfl,by rw[S2.out];exact SpAt.nil _ _,hb3⟩
 ·have e1:Hid (ev (Bur.fault a z)=errN (Bur.fault a z)):=ev_ne hf
  have F:Hid (Bur.frF (a,z) l=Bur.fault a z):=Bur.frF_p (p:=(a,z)) hf
  have S:Hid (Bur.gpS (a,z) l=[]):=by show _=_;unfold Bur.gpS;rw[F.out,if_neg hf]
  rw[e1.out]
  clear hf hs1
  go_wp2_with fail
  go_ret2
  exact⟨none,0,by rw[S.out,F.out,e1.out];rfl,by rw[S.out];exact SpAt.nil _ _,below_via hb0 hb1⟩
end Go.Proofs.YtcjdoeclblhaeaaGreatDoor.Sa
namespace Go.Proofs.YtcjdoeclblhaeaaGreatDoor.Sa
open Go.RowKit
theorem gapsFor (a z n:Int) (p:Option Addr) (cap:Nat) (l:List Bur.Sp) (w:World) (hl:l.length<=9223372036854775807) (hs:SpAt w p l) :
  Calls Tryz.prog 263 #[pfx a z,.slice p l.length cap,.int .i64 n] w fun e w'=>∃ (q:Option Addr) (cq:Nat),e=.returned (.tuple #[.slice q (Bur.gfS (a,z) l n).length cq,ev (Bur.gfF (a,z) l n)])/\SpAt w' q (Bur.gfS (a,z) l n)/\Below w.heap.size w w':=by
 have hb0:Below w.heap.size w (w.alloc (.cells #[.int .i64 a,.int .i64 z] 105)):=below_al (below_self _) _
 go_enter Tryz.func263,Tryz.ntmps263
 go_wp2_with fail
 refine (gaps a z p cap l _ hl (hs.step hb0)).mono ?_
 rintro e w1 ⟨q,cq,rfl,sq,hb1⟩
 have p0:w1.cell? ⟨w.heap.size,0,none⟩=some (.int .i64 a):=(hb1.cell (p:=⟨w.heap.size,0,none⟩) (by simp)).trans (by simp)
 have p1:w1.cell? ⟨w.heap.size,1,none⟩=some (.int .i64 z):=(hb1.cell (p:=⟨w.heap.size,1,none⟩) (by simp)).trans (by simp)
 replace hb1:=below_via hb0 hb1
 clear hs hb0
 by_cases hf:Bur.frF (a,z) l=0
 ·have e1:Hid (ev (Bur.frF (a,z) l)=.nilIface):=by show _=_;rw[hf];rfl
  have F:Hid (Bur.gfF (a,z) l n=Bur.lnF (a,z) n):=if_pos hf
  have hg:Hid (Bur.gpS (a,z) l=Bur.gps (a,z) l):=if_pos hf
  rw[e1.out,hg.out]
  rw[hg.out] at sq
  clear hf hg e1
  go_wp2_with fail
  refine (checkLen a z n w1).mono ?_
  rintro e w2 ⟨rfl,hb2⟩
  have sq2:=sq.step hb2
  have hb3:=below_via hb1 hb2
  clear hb1 hb2 sq p0 p1
  by_cases hn:Bur.lnF (a,z) n=0
  ·have e1:Hid (ev (Bur.lnF (a,z) n)=.nilIface):=by show _=_;rw[hn];rfl
   have S:Hid (Bur.gfS (a,z) l n=Bur.gps (a,z) l):=by show _=_;unfold Bur.gfS;rw[F.out,if_pos hn]
   have F2:Hid (Bur.gfF (a,z) l n=0):=F.out.trans hn
   rw[e1.out]
   clear hn F e1
   go_wp2_with fail
   go_ret2
   exact⟨q,cq,by rw[S.out,F2.out];rfl,by rw[S.out];exact sq2,hb3⟩
  ·have e1:Hid (ev (Bur.lnF (a,z) n)=errN (Bur.lnF (a,z) n)):=ev_ne hn
   have S:Hid (Bur.gfS (a,z) l n=[]):=by show _=_;unfold Bur.gfS;rw[F.out,if_neg hn]
   rw[e1.out]
   clear hn sq2
   go_wp2_with fail
   go_ret2
   exact⟨none,0,by rw[S.out,F.out,e1.out];rfl,by rw[S.out];exact SpAt.nil _ _,hb3⟩
 ·have e1:Hid (ev (Bur.frF (a,z) l)=errN (Bur.frF (a,z) l)):=ev_ne hf
  have F:Hid (Bur.gfF (a,z) l n=Bur.frF (a,z) l):=if_neg hf
  have S:Hid (Bur.gfS (a,z) l n=[]):=by show _=_;unfold Bur.gfS;rw[F.out,if_neg hf]
  rw[e1.out]
  clear hf sq p0 p1
  go_wp2_with fail
  go_ret2
  exact⟨none,0,by rw[S.out,F.out,e1.out];rfl,by rw[S.out];exact SpAt.nil _ _,hb1⟩
theorem freeFirst (a z n:Int) (p:Option Addr) (cap:Nat) (l:List Bur.Sp) (w:World) (hl:l.length<=9223372036854775807) (hs:SpAt w p l) :
  Calls Tryz.prog 218 #[pfx a z,.slice p l.length cap,.int .i64 n] w fun e w'=>e=.returned (.tuple #[pfx (Bur.fsS (a,z) l n).1 (Bur.fsS (a,z) l n).2,ev (Bur.fsF (a,z) l n)])/\Below w.heap.size w w':=by
 have hb0:Below w.heap.size w ((w.alloc (.cells #[.int .i64 a,.int .i64 z] 105)).alloc (.cells #[.int .i64 0,.int .i64 0] 105)):=below_al (below_al (below_self _) _) _
 have bx0:=Bx.new (w.alloc (.cells #[.int .i64 a,.int .i64 z] 105)) 105 0 0
 rw[World.size_alloc] at bx0
 have hb0:Below w.heap.size w ((w.alloc (.cells #[.int .i64 a,.int .i64 z] 105)).alloc (.cells #[.int .i64 0,.int .i64 0] 105)):=below_al (below_al (below_self _) _) _
 have bx0:=Bx.new (w.alloc (.cells #[.int .i64 a,.int .i64 z] 105)) 105 0 0
 rw[World.size_alloc] at bx0
 go_enter Tryz.func218,Tryz.ntmps218
 go_wp2_with fail
 refine (gapsFor a z n p cap l _ hl (hs.step hb0)).mono ?_
 rintro e w1 ⟨q,cq,rfl,sq,hb1⟩
 have bx:=bx0.step hb1
 replace hb1:=below_via hb0 hb1
 clear hs hb0 bx0
 by_cases hf:Bur.gfF (a,z) l n=0
 ·have e1:Hid (ev (Bur.gfF (a,z) l n)=.nilIface):=by show _=_;rw[hf];rfl
  have hg:Hid (Bur.gfS (a,z) l n=Bur.gps (a,z) l):=if_pos hf
  obtain⟨h0,n0,n1⟩:=Bur.gfF_ok hf
  have hone:Hid _:=Bur.gps_one h0
  have hgl:=(Bur.gps_ps h0).2.1
  have hz0:0<=z:=(Bur.frF_ok h0).1.parts.1
  have hn0:0<=n:=by omega
  have F:Hid (Bur.fsF (a,z) l n=Bur.nnF (Bur.fsp (a,z) l n)):=if_pos hf
  have E:Hid (Bur.fsp (a,z) l n=Bur.fsg n (Bur.gps (a,z) l)):=(Bur.fs_fsg hf).1
  rw[e1.out,hg.out]
  rw[hg.out] at sq
  clear hf hg e1 h0 hz0
  obtain⟨G,hG⟩:∃ G,Bur.gps (a,z) l=G:=⟨_,rfl⟩
  rw[hG] at hone hgl E sq ⊢
  clear hG
  go_wp2_with fail
  go_loopw [27] (fun i wr=>∃ k:Nat,k<=G.length/\i=.int .i64 k/\Hid (Bur.fsp (a,z) l n=Bur.fsg n (G.drop k))/\Below w1.heap.size w1 wr) (fun i _=>G.length - (intOf i).toNat)
  case atStart=>exact⟨0,by omega,rfl,E,below_self _⟩
  case round=>
   obtain⟨k,hk,rfl,R,hbw⟩:=hrel
   replace bx:=bx.step hbw
   by_cases hlt:k<G.length
   ·have hlt':(k:Int)<(G.length:Int):=by omega
    obtain⟨b,off,rfl,hbl,hc⟩:=sq (by omega)
    have hcb2:=bcell hbw
    have c0:wr.cell? ⟨b,off+k*2,none⟩=some (.int .i64 (lo G k)):=(hcb2.1 _ _ hbl).trans (hc k hlt).1
    have c1:wr.cell? ⟨b,off+k*2+1,none⟩=some (.int .i64 (hi G k)):=(hcb2.1 _ _ hbl).trans (hc k hlt).2
    have hd0:=drop_sp hlt
    have hon:=hone.out (lo G k,hi G k) (List.mem_of_mem_drop (by rw[hd0];simp))
    obtain⟨x,hx⟩:∃ x,lo G k=x:=⟨_,rfl⟩
    obtain⟨y,hy⟩:∃ y,hi G k=y:=⟨_,rfl⟩
    rw[hx] at c0
    rw[hy] at c1
    rw[hx,hy] at hon hd0
    have R2:Hid (Bur.fsp (a,z) l n=if 0<Bur.plc (Bur.sz n) (x,y) then some (Bur.upn (Bur.sz n) x) else Bur.fsg n (G.drop (k+1))):=by show _=_;rw[R.out,hd0,Bur.fsg]
    obtain⟨o1,o2,o3⟩:=hon
    simp only at o1 o2 o3
    clear hc hcb2 hd0 hx hy R sq E
    go_wp2_with fail
    refine (fit x y n _ o1 o2 o3 hn0 n1).mono ?_
    rintro e w3 ⟨rfl,hb3⟩
    replace bx:=(bx.step (below_al (below_self _) _)).step hb3
    have hb4:=below_via (below_al hbw _) hb3
    obtain⟨u,hu⟩:∃ u,Bur.upn (Bur.sz n) x=u:=⟨_,rfl⟩
    obtain⟨m,hm⟩:∃ m,Bur.plc (Bur.sz n) (x,y)=m:=⟨_,rfl⟩
    rw[hu,hm] at R2 ⊢
    clear hu hm c0 c1 hb3
    by_cases h0:0<m
    ·have h0':(0:Int)<(m:Int):=by omega
     have R3:Hid (Bur.fsp (a,z) l n=some u):=by show _=_;rw[R2.out,if_pos h0]
     have F2:Hid (Bur.fsF (a,z) l n=0):=by show _=_;rw[F.out,R3.out];rfl
     have S2:Hid (Bur.fsS (a,z) l n=(u,n)):=by show _=_;unfold Bur.fsS;rw[if_pos F2.out,R3.out];rfl
     clear R2 F
     obtain⟨y0,y1⟩:=bx.put u n
     obtain⟨b0,b1,b2,b3⟩:=bx
     go_wp2_with fail
     exact bodyPost_ret (v:=.tuple #[pfx u n,.nilIface]) (by simp[results,Tryz.results218,go_sem,y0,y1]) rfl ⟨by rw[S2.out,F2.out];rfl,((below_via hb1 hb4).setCell (by show w.heap.size<=w.heap.size+1;omega) _).setCell (by show w.heap.size<=w.heap.size+1;omega) _⟩
    ·have h0':(m:Int)<=0:=by omega
     have R3:Hid (Bur.fsp (a,z) l n=Bur.fsg n (G.drop (k+1))):=by show _=_;rw[R2.out,if_neg h0]
     clear R2 bx
     go_wp2_with fail
     exact⟨⟨k+1,by omega,by go_num,R3,hb4⟩,by simp[intOf];omega⟩
   ·have R3:Hid (Bur.fsp (a,z) l n=none):=by show _=_;rw[R.out,List.drop_eq_nil_of_le (by omega)];rfl
    have F2:Hid (Bur.fsF (a,z) l n=4):=by show _=_;rw[F.out,R3.out];rfl
    have S2:Hid (Bur.fsS (a,z) l n=(0,0)):=by show _=_;unfold Bur.fsS;rw[if_neg (by rw[F2.out];decide)]
    clear R F sq E
    obtain⟨y0,y1⟩:=bx.put 0 0
    obtain⟨b0,b1,b2,b3⟩:=bx
    go_wp2_with fail
    exact bodyPost_ret (v:=.tuple #[pfx 0 0,errN 4]) (by simp[results,Tryz.results218,go_sem,y0,y1]) rfl ⟨by rw[S2.out,F2.out];rfl,((below_via hb1 hbw).setCell (by show w.heap.size<=w.heap.size+1;omega) _).setCell (by show w.heap.size<=w.heap.size+1;omega) _⟩
 ·have e1:Hid (ev (Bur.gfF (a,z) l n)=errN (Bur.gfF (a,z) l n)):=ev_ne hf
  have F:Hid (Bur.fsF (a,z) l n=Bur.gfF (a,z) l n):=if_neg hf
  have S:Hid (Bur.fsS (a,z) l n=(0,0)):=by show _=_;unfold Bur.fsS;rw[F.out,if_neg hf]
  rw[e1.out]
  clear hf sq
  obtain⟨y0,y1⟩:=bx.put 0 0
  obtain⟨b0,b1,b2,b3⟩:=bx
  go_wp2_with fail
  exact bodyPost_ret (v:=.tuple #[pfx 0 0,errN (Bur.gfF (a,z) l n)]) (by simp[results,Tryz.results218,go_sem,y0,y1]) rfl ⟨by rw[S.out,F.out,e1.out],(hb1.setCell (by show w.heap.size<=w.heap.size+1;omega) _).setCell (by show w.heap.size<=w.heap.size+1;omega) _⟩
end Go.Proofs.YtcjdoeclblhaeaaGreatDoor.Sa
