/- -/
import Derived.Test.YtcjdoeclblhaeaaGreatDoorRAdBase
import Derived.Test.YtcjdoeclblhaeaaGreatDoorRAdMath
import Derived.Deep.AppendLies
import Derived.OneCell
import Derived.Test.YtcjdoeclblhaeaaGreatDoorRCvMath
import Derived.Maps.OwnSet
import Derived.WalkArith
set_option maxHeartbeats 4000000
set_option maxRecDepth 100000
namespace Go.Proofs.YtcjdoeclblhaeaaGreatDoor.Sa
open Go.RowKit
abbrev lo (l:List Bur.Sp) (i:Nat):Int:=(l.getD i (0,0)).1
abbrev hi (l:List Bur.Sp) (i:Nat):Int:=(l.getD i (0,0)).2
def SpC (w:World) (b off:Nat) (l:List Bur.Sp):Prop:=
 ∀ i,i<l.length->w.cell? ⟨b,off+i*2,none⟩=some (.int .i64 (lo l i))/\w.cell? ⟨b,off+i*2+1,none⟩=some (.int .i64 (hi l i))
def SpAt (w:World) (p:Option Addr) (l:List Bur.Sp):Prop:=
 0<l.length -> ∃ b off,p=some ⟨b,off,none⟩/\b<w.heap.size/\SpC w b off l
theorem SpAt.step {w w':World} {p:Option Addr} {l:List Bur.Sp} (h:SpAt w p l) (hb:Below w.heap.size w w'):SpAt w' p l:=by
 intro hl
 obtain⟨b,off,rfl,hlt,hc⟩:=h hl
 refine⟨b,off,rfl,Nat.lt_of_lt_of_le hlt hb.size,fun i hi=>?_⟩
 rw[hb.cell (p:=⟨b,off+i*2,none⟩) hlt,hb.cell (p:=⟨b,off+i*2+1,none⟩) hlt]
 exact hc i hi
theorem SpAt.alloc {w:World} {p:Option Addr} {l:List Bur.Sp} (h:SpAt w p l) (o:Obj):SpAt (w.alloc o) p l:=h.step (below_al (below_self _) _)
theorem SpAt.nil (w:World) (p:Option Addr):SpAt w p []:=fun h=>by simp at h
theorem drop_sp {l:List Bur.Sp} {k:Nat} (h:k<l.length):l.drop k=(lo l k,hi l k) :: l.drop (k+1):=by
 rw[List.drop_eq_getElem_cons h]
 simp only [lo,hi,List.getD,List.getElem?_eq_getElem h,Option.getD_some]
abbrev scs (a b:Int):Obj:=.cells #[.int .i64 a,.int .i64 b] 346
theorem checkSpan (a b:Int) (w:World):Calls Tryz.prog 320 #[pfx a b] w fun e w'=>e=.returned (ev (Bur.spF a b))/\Below w.heap.size w w':=by
 have hb0:Below w.heap.size w (w.alloc (scs a b)):=below_al (below_self _) _
 cases h1:Bur.isA a
 ·have E:Bur.spF a b=1:=by simp[Bur.spF,h1]
  rw[E]
  go_enter Tryz.func320,Tryz.ntmps320
  go_wp2_with (go_at_call 87;refine (isAddress _ _).mono ?_;rintro e w' ⟨rfl,rfl⟩)
  go_ret
  exact⟨rfl,hb0⟩
 ·cases h2:Bur.isA b
  ·have E:Bur.spF a b=1:=by simp[Bur.spF,h2]
   rw[E]
   go_enter Tryz.func320,Tryz.ntmps320
   go_wp2_with (go_at_call 87;refine (isAddress _ _).mono ?_;rintro e w' ⟨rfl,rfl⟩)
   go_ret
   exact⟨rfl,hb0⟩
  ·by_cases h3:b<a
   ·have E:Bur.spF a b=2:=by simp[Bur.spF,h1,h2,h3]
    rw[E]
    go_enter Tryz.func320,Tryz.ntmps320
    go_wp2_with (go_at_call 87;refine (isAddress _ _).mono ?_;rintro e w' ⟨rfl,rfl⟩)
    go_ret
    exact⟨rfl,hb0⟩
   ·have E:Bur.spF a b=0:=by simp[Bur.spF,h1,h2,h3]
    rw[E]
    go_enter Tryz.func320,Tryz.ntmps320
    go_wp2_with (go_at_call 87;refine (isAddress _ _).mono ?_;rintro e w' ⟨rfl,rfl⟩)
    go_ret
    exact⟨rfl,hb0⟩
theorem stF_at {l:List Bur.Sp} {h:Int} {k:Nat} (hk:k<l.length):Bur.stF h (l.drop k)=if Bur.spF (lo l k) (hi l k)=0 then (if lo l k<=h+1 then 2 else Bur.stF (hi l k) (l.drop (k+1))) else Bur.spF (lo l k) (hi l k):=by
 rw[drop_sp hk];rfl
def prv (l:List Bur.Sp) (k:Nat):Int:=if k=0 then -2 else hi l (k - 1)
theorem check (p:Option Addr) (cap:Nat) (l:List Bur.Sp) (w:World) (hl:l.length<=9223372036854775807) (hs:SpAt w p l):Calls Tryz.prog 313 #[.slice p l.length cap] w fun e w'=>e=.returned (ev (Bur.setF l))/\Below w.heap.size w w':=by
 by_cases h64:64<l.length
 ·have E:Bur.setF l=3:=if_pos h64
  rw[E]
  go_enter Tryz.func313,Tryz.ntmps313
  go_wp2
  go_ret
  exact⟨rfl,below_self _⟩
 have E:Bur.setF l=Bur.stF (-2) l:=if_neg h64
 rw[E]
 clear E
 go_enter Tryz.func313,Tryz.ntmps313
 go_wp2
 go_loopw [12] (fun i wr=>∃ k:Nat,k<=l.length/\i=.int .i64 k/\Hid (Bur.stF (-2) l=Bur.stF (prv l k) (l.drop k))/\Hid (0<k->Bur.isA (hi l (k - 1))=true)/\Below w.heap.size w wr) (fun i _=>l.length - (intOf i).toNat)
 case atStart=>exact⟨0,by omega,rfl,rfl,fun h=>by omega,below_self _⟩
 case round=>
  obtain⟨k,hk,rfl,R,hA,hb⟩:=hrel
  by_cases hlt:k<l.length
  ·have hlt':(k:Int)<(l.length:Int):=by omega
   obtain⟨b,off,rfl,hbl,hc⟩:=hs (by omega)
   have hcb:=bcell hb
   have c0:wr.cell? ⟨b,off+k*2,none⟩=some (.int .i64 (lo l k)):=(hcb.1 _ _ hbl).trans (hc k hlt).1
   have c1:wr.cell? ⟨b,off+k*2+1,none⟩=some (.int .i64 (hi l k)):=(hcb.1 _ _ hbl).trans (hc k hlt).2
   have S:Hid _:=stF_at (h:=prv l k) hlt
   have hsz:=hb.size
   by_cases hf:Bur.spF (lo l k) (hi l k)=0
   ·have ok:=Bur.spF_ok hf
    have hev:Hid (ev (Bur.spF (lo l k) (hi l k))=.nilIface):=by show _=_;rw[hf];rfl
    have A2:Hid (0<k+1->Bur.isA (hi l (k+1 - 1))=true):=fun _=>Bur.isA_mk (by simp only [Nat.add_sub_cancel];omega) (by simp only [Nat.add_sub_cancel];omega)
    by_cases hk0:0<k
    ·have cp:wr.cell? ⟨b,off+(k - 1)*2+1,none⟩=some (.int .i64 (hi l (k - 1))):=(hcb.1 _ _ hbl).trans (hc (k - 1) (by omega)).2
     have hp:=Bur.isA_true (hA.out hk0)
     have hg:decide ((0:Int)<(k:Int))=true:=by simp;omega
     have eP:prv l k=hi l (k - 1):=if_neg (by omega)
     cases hd:decide (lo l k<=hi l (k - 1)+1)
     ·have S2:Hid (Bur.stF (-2) l=Bur.stF (prv l (k+1)) (l.drop (k+1))):=by
       show _=_
       rw[R.out,S.out,if_pos hf,if_neg (by rw[eP];simpa using hd)]
       rfl
      clear S hf hc hcb hs R hA eP
      go_wp2_with (go_at_call 320;refine (checkSpan _ _ _).mono ?_;rintro e w1 ⟨rfl,hb1⟩;rw[hev.out];have hb2:Below w.heap.size w w1:=below_via (below_al hb _) hb1;have d0:w1.cell? ⟨wr.heap.size,0,none⟩=some (.int .i64 (lo l k)):=(hb1.cell (p:=⟨wr.heap.size,0,none⟩) (by simp)).trans (by simp);have d1:w1.cell? ⟨b,off+(k - 1)*2+1,none⟩=some (.int .i64 (hi l (k - 1))):=(hb1.cell (p:=⟨b,off+(k - 1)*2+1,none⟩) (by simp;omega)).trans ((World.cell?_alloc_lt _ _ _ (by simp;omega)).trans cp);clear hb1)
      go_quiet (fail)
      go_wp2
      exact⟨⟨k+1,by omega,by go_num,S2,A2,below_drewN hb2 _⟩,by simp[intOf];omega⟩
     ·have S2:Hid (Bur.stF (-2) l=2):=by
       show _=_
       rw[R.out,S.out,if_pos hf,if_pos (by rw[eP];simpa using hd)]
      clear S hf hc hcb hs R hA eP
      go_wp2_with (go_at_call 320;refine (checkSpan _ _ _).mono ?_;rintro e w1 ⟨rfl,hb1⟩;rw[hev.out];have hb2:Below w.heap.size w w1:=below_via (below_al hb _) hb1;have d0:w1.cell? ⟨wr.heap.size,0,none⟩=some (.int .i64 (lo l k)):=(hb1.cell (p:=⟨wr.heap.size,0,none⟩) (by simp)).trans (by simp);have d1:w1.cell? ⟨b,off+(k - 1)*2+1,none⟩=some (.int .i64 (hi l (k - 1))):=(hb1.cell (p:=⟨b,off+(k - 1)*2+1,none⟩) (by simp;omega)).trans ((World.cell?_alloc_lt _ _ _ (by simp;omega)).trans cp);clear hb1)
      go_quiet (fail)
      go_wp2
      go_ret
      exact⟨by rw[S2.out];rfl,below_drewN hb2 _⟩
    ·have S2:Hid (Bur.stF (-2) l=Bur.stF (prv l (k+1)) (l.drop (k+1))):=by
      show _=_
      rw[R.out,S.out,if_pos hf,if_neg (by simp only [prv];rw[if_pos (by omega)];omega)]
      rfl
     have hg:decide ((0:Int)<(k:Int))=false:=by simp;omega
     clear S hf hc hcb hs R hA
     go_wp2_with (go_at_call 320;refine (checkSpan _ _ _).mono ?_;rintro e w1 ⟨rfl,hb1⟩;rw[hev.out];have hb2:Below w.heap.size w w1:=below_via (below_al hb _) hb1;clear hb1)
     go_quiet (fail)
     go_wp2
     exact⟨⟨k+1,by omega,by go_num,S2,A2,below_drewN hb2 _⟩,by simp[intOf];omega⟩
   ·have hev:Hid (ev (Bur.spF (lo l k) (hi l k))=errN (Bur.spF (lo l k) (hi l k))):=if_neg hf
    have S2:Hid (Bur.stF (-2) l=Bur.spF (lo l k) (hi l k)):=by
     show _=_
     rw[R.out,S.out,if_neg hf]
    clear S hc hcb hs R hA
    go_wp2_with (go_at_call 320;refine (checkSpan _ _ _).mono ?_;rintro e w1 ⟨rfl,hb1⟩;rw[hev.out];have hb2:Below w.heap.size w w1:=below_via (below_al hb _) hb1;clear hb1)
    go_ret
    exact⟨by rw[S2.out,hev.out];rfl,hb2⟩
  ·have S2:Hid (Bur.stF (-2) l=0):=by
    show _=_
    rw[R.out,List.drop_eq_nil_of_le (by omega)];rfl
   clear R hA hs
   go_wp2
   go_ret
   exact⟨by rw[S2.out];rfl,hb⟩
end Go.Proofs.YtcjdoeclblhaeaaGreatDoor.Sa
namespace Bur
end Bur
namespace Go.Proofs.YtcjdoeclblhaeaaGreatDoor.Sa
open Go.RowKit
theorem inOne (a b x:Int) (q:Addr) (w:World) (hq:w.cell? q=some (.int .i64 x)):Calls Tryz.prog 323 #[pfx a b,.pointer (some q)] w fun e w'=>e=.returned (.bool (decide (a<=x)&&decide (x<=b)))/\Below w.heap.size w w':=by
 have hlt:=World.block_lt_of_cell? _ _ hq
 have hq2:(w.alloc (scs a b)).cell? q=some (.int .i64 x):=(World.cell?_alloc_lt _ _ _ hlt).trans hq
 have hb0:Below w.heap.size w (w.alloc (scs a b)):=below_al (below_self _) _
 cases h1:decide (a<=x)
 ·go_enter Tryz.func323,Tryz.ntmps323
  go_wp2
  go_ret
  exact⟨rfl,hb0⟩
 ·go_enter Tryz.func323,Tryz.ntmps323
  go_wp2
  go_ret
  exact⟨rfl,hb0⟩
theorem indexFunc (p:Option Addr) (cap:Nat) (l:List Bur.Sp) (x:Int) (q:Addr) (w:World) (hl:l.length<=9223372036854775807) (hs:SpAt w p l) (hq:w.cell? q=some (.int .i64 x)) :
  Calls Tryz.prog 333 #[.slice p l.length cap,.func (.func 323) #[] #[.pointer (some q)]] w fun e w'=>∃ r:Int,e=.returned (.int .i64 r)/\decide (0<=r)=Bur.mem l x/\Below w.heap.size w w':=by
 have hqb:=World.block_lt_of_cell? _ _ hq
 go_enter Tryz.func333,Tryz.ntmps333
 go_wp2
 go_loopw [8] (fun i wr=>∃ (k:Nat),k<=l.length/\i=.int .i64 k/\Hid (Bur.mem l x=Bur.mem (l.drop k) x)/\Below w.heap.size w wr) (fun i _=>l.length - (intOf i).toNat)
 case atStart=>exact⟨0,by omega,rfl,rfl,below_self _⟩
 case round=>
  obtain⟨k,hk,rfl,R,hb⟩:=hrel
  by_cases hlt:k<l.length
  ·have hlt':(k:Int)<(l.length:Int):=by omega
   obtain⟨b,off,rfl,hbl,hc⟩:=hs (by omega)
   have hcb:=bcell hb
   have c0:wr.cell? ⟨b,off+k*2,none⟩=some (.int .i64 (lo l k)):=(hcb.1 _ _ hbl).trans (hc k hlt).1
   have c1:wr.cell? ⟨b,off+k*2+1,none⟩=some (.int .i64 (hi l k)):=(hcb.1 _ _ hbl).trans (hc k hlt).2
   have cq:wr.cell? q=some (.int .i64 x):=(hb.cell hqb).trans hq
   clear hc hcb hs hq
   cases h:(decide (lo l k<=x)&&decide (x<=hi l k))
   ·have R2:Hid (Bur.mem l x=Bur.mem (l.drop (k+1)) x):=by
     show _=_
     rw[R.out,drop_sp hlt,Bur.mem_cons];simp only;rw[h];rfl
    have H:Hid _:=h
    clear R h
    go_wp2_with (go_at_call 323;refine (inOne _ _ x q _ cq).mono ?_;rintro e w1 ⟨rfl,hb1⟩;rw[H.out];have hb2:Below w.heap.size w w1:=below_via hb hb1)
    exact⟨⟨k+1,by omega,by go_num,R2,hb2⟩,by simp[intOf];omega⟩
   ·have R2:Hid (Bur.mem l x=true):=by
     show _=_
     rw[R.out,drop_sp hlt,Bur.mem_cons];simp only;rw[h];rfl
    have H:Hid _:=h
    clear R h
    go_wp2_with (go_at_call 323;refine (inOne _ _ x q _ cq).mono ?_;rintro e w1 ⟨rfl,hb1⟩;rw[H.out];have hb2:Below w.heap.size w w1:=below_via hb hb1)
    go_ret
    exact⟨k,rfl,by rw[R2.out];simp,hb2⟩
  ·have R2:Hid (Bur.mem l x=false):=by
    show _=_
    rw[R.out,List.drop_eq_nil_of_le (by omega)];rfl
   clear R hs
   go_wp2
   go_ret
   exact⟨-1,rfl,by rw[R2.out];rfl,hb⟩
theorem containsFunc (p:Option Addr) (cap:Nat) (l:List Bur.Sp) (x:Int) (q:Addr) (w:World) (hl:l.length<=9223372036854775807) (hs:SpAt w p l) (hq:w.cell? q=some (.int .i64 x)) :
  Calls Tryz.prog 322 #[.slice p l.length cap,.func (.func 323) #[] #[.pointer (some q)]] w fun e w'=>e=.returned (.bool (Bur.mem l x))/\Below w.heap.size w w':=by
 go_enter Tryz.func322,Tryz.ntmps322
 go_wp2_with (go_at_call 333;refine (indexFunc p cap l x q _ hl hs hq).mono ?_;rintro e w1 ⟨r,rfl,hr,hb1⟩;have H:Hid _:=hr;clear hr)
 go_ret
 exact⟨by rw[<- H.out];rfl,hb1⟩
def Ask (w:World) (c:Addr) (l:List Bur.Sp):Prop:=l.length<=9223372036854775807 /\ ∃ p cap,w.cell? c=some (.slice p l.length cap)/\SpAt w p l
theorem Ask.step {w w':World} {c:Addr} {l:List Bur.Sp} (h:Ask w c l) (hb:Below w.heap.size w w'):Ask w' c l:=by
 obtain⟨h0,p,cap,h1,h2⟩:=h
 exact⟨h0,p,cap,(hb.cell (World.block_lt_of_cell? _ _ h1)).trans h1,h2.step hb⟩
theorem askOne (l:List Bur.Sp) (x:Int) (c:Addr) (w:World) (ha:Ask w c l):Calls Tryz.prog 321 #[.int .i64 x,.pointer (some c)] w fun e w'=>e=.returned (.bool (Bur.mem l x))/\Below w.heap.size w w':=by
 obtain⟨hl,p,cap,h1,h2⟩:=ha
 have hb0:Below w.heap.size w (w.alloc (.cells #[.int .i64 x] 3)):=below_al (below_self _) _
 have h1':(w.alloc (.cells #[.int .i64 x] 3)).cell? c=some (.slice p l.length cap):=(hb0.cell (World.block_lt_of_cell? _ _ h1)).trans h1
 have hq:(w.alloc (.cells #[.int .i64 x] 3)).cell? ⟨w.heap.size,0,none⟩=some (.int .i64 x):=by simp
 go_enter Tryz.func321,Tryz.ntmps321
 go_wp2_with (go_at_call 322;refine (containsFunc p cap l x ⟨w.heap.size,0,none⟩ _ hl (h2.step hb0) hq).mono ?_;rintro e w1 ⟨rfl,hb1⟩)
 go_ret
 exact⟨rfl,below_via hb0 hb1⟩
theorem asker (p:Option Addr) (cap:Nat) (l:List Bur.Sp) (w:World) (hl:l.length<=9223372036854775807) (hs:SpAt w p l):Calls Tryz.prog 314 #[.slice p l.length cap] w fun e w'=>∃ c,e=.returned (.func (.func 321) #[] #[.pointer (some c)])/\Ask w' c l/\Below w.heap.size w w':=by
 go_enter Tryz.func314,Tryz.ntmps314
 go_wp2
 go_ret
 exact⟨⟨w.heap.size,0,none⟩,rfl,⟨hl,p,cap,by simp,hs.alloc _⟩,below_al (below_self _) _⟩
end Go.Proofs.YtcjdoeclblhaeaaGreatDoor.Sa
namespace Go.Proofs.YtcjdoeclblhaeaaGreatDoor.Sa
open Go.RowKit
theorem info_span:(Tryz.prog.info? 346).map (fun i=>(i.zero,i.size,i.bytes))=some (some (.agg #[.int .i64 0,.int .i64 0]),2,16):=by kernel_rfl
theorem info_int:(Tryz.prog.info? 3).map (fun i=>(i.zero,i.size,i.bytes))=some (some (.int .i64 0),1,8):=by kernel_rfl
theorem own_below {w w':World} {B e size n:Nat} {v:Value} {xs:List Value} (h:w.ownsRow B e size v n xs) (hb:Below w.heap.size w w'):w'.ownsRow B e size v n xs:=by
 refine⟨h.1,?_⟩
 rcases h.2 with hn|⟨g,cap,cur,rfl,h1,hg,rest⟩
 ·exact .inl hn
 ·exact .inr ⟨g,cap,cur,rfl,h1,(hb.block g (Array.getElem?_eq_some_iff.1 hg).1).trans hg,rest⟩
def spV (l:List Bur.Sp):List Value:=l.flatMap fun s=>[.int .i64 s.1,.int .i64 s.2]
theorem spV_len:∀ l:List Bur.Sp,(spV l).length=l.length*2
 | []=>rfl
 | s :: r=>by show ((spV r).length+1+1)=_;rw[spV_len r,List.length_cons];omega
theorem spV_app (l m:List Bur.Sp):spV (l++m)=spV l++spV m:=by simp[spV]
theorem spV_at:∀ (l:List Bur.Sp) (i:Nat),i<l.length->(spV l)[i*2]? = some (.int .i64 (lo l i))/\(spV l)[i*2+1]? = some (.int .i64 (hi l i))
 | s :: r,0,_=>⟨rfl,rfl⟩
 | s :: r,i+1,h=>by
  have:=spV_at r i (by simpa using h)
  rw[show (i+1)*2=i*2+2 from by omega,show i*2+2+1=i*2+1+2 from by omega]
  exact this
theorem spAt_own {w:World} {B n cap:Nat} {p:Option Addr} {l:List Bur.Sp} (h:w.ownsRow B 346 2 (.slice p n cap) l.length (spV l)):n=l.length/\SpAt w p l:=by
 rcases h.2 with ⟨h0,h1⟩|⟨g,cap',cur,h0,_,hg,_,_,_,_⟩
 ·cases h0;exact⟨h1.symm,fun hp=>by omega⟩
 ·cases h0
  refine⟨rfl,fun _=>⟨g,0,rfl,(Array.getElem?_eq_some_iff.1 hg).1,fun i hi=>?_⟩⟩
  have:=spV_at l i hi
  rw[Nat.zero_add,h.cellAt (i*2) (by omega),h.cellAt (i*2+1) (by omega)]
  exact this
def InAt (w:World) (p:Option Addr) (zs:List Int):Prop:=
 0<zs.length -> ∃ b off,p=some ⟨b,off,none⟩/\b<w.heap.size /\ ∀ i,i<zs.length->w.cell? ⟨b,off+i,none⟩=some (.int .i64 (zs.getD i 0))
theorem InAt.step {w w':World} {p:Option Addr} {zs:List Int} (h:InAt w p zs) (hb:Below w.heap.size w w'):InAt w' p zs:=by
 intro hl
 obtain⟨b,off,rfl,hlt,hc⟩:=h hl
 refine⟨b,off,rfl,Nat.lt_of_lt_of_le hlt hb.size,fun i hi=>?_⟩
 rw[hb.cell (p:=⟨b,off+i,none⟩) hlt]
 exact hc i hi
theorem drop_int {zs:List Int} {k:Nat} (h:k<zs.length):zs.drop k=zs.getD k 0 :: zs.drop (k+1):=by
 rw[List.drop_eq_getElem_cons h]
 simp only [List.getD,List.getElem?_eq_getElem h,Option.getD_some]
def rowOf (done:List Bur.Sp):Option Int->List Bur.Sp
 | none=>done
 | some a=>done ++ [(a,0)]
theorem spV_close (done:List Bur.Sp) (a e:Int) (k:Nat) (hk:k=done.length):(spV (done ++ [(a,0)])).set (k*2+1) (.int .i64 e)=spV (done ++ [(a,e)]):=by
 subst hk
 rw[spV_app,spV_app]
 show (spV done ++ [Value.int .i64 a,Value.int .i64 0]).set (done.length*2+1) (.int .i64 e)=spV done ++ [Value.int .i64 a,Value.int .i64 e]
 rw[List.set_append_right _ _ (by rw[spV_len];omega),spV_len,show done.length*2+1 - done.length*2=1 from by omega]
 rfl
theorem gather2 (P:Int->Bool) (q:Option Addr) (cap:Nat) (zs:List Int) (c1 c2 c3:Addr) (w:World) (hz:zs.length<=1000000) (hq:InAt w q zs) (hB:∀ z∈zs,0<=z/\z<=4294967296)
  (hF:∀ (x:Int) (w1:World),Below w.heap.size w w1->Calls Tryz.prog 317 #[.int .i64 x,.pointer (some c1),.pointer (some c2),.pointer (some c3)] w1 fun e w'=>e=.returned (.bool (P x))/\Below w1.heap.size w1 w') :
  Calls Tryz.prog 315 #[.slice q zs.length cap,.func (.func 317) #[] #[.pointer (some c1),.pointer (some c2),.pointer (some c3)]] w fun e w'=>∃ (p':Option Addr) (cap':Nat),e=.returned (.slice p' (Bur.gt P none zs).length cap')/\SpAt w' p' (Bur.gt P none zs)/\Below w.heap.size w w':=by
 obtain⟨i0,hi,hz0,hz1,hz2⟩:=info_parts info_span
 go_enter Tryz.func315,Tryz.ntmps315
 go_wp2
 go_loopw [5,6,12] (fun v o i wr=>∃ (k:Nat) (done:List Bur.Sp) (cur:Option Int),k<=zs.length/\i=.int .i64 k/\o=.bool cur.isSome/\(rowOf done cur).length<=k/\Hid (Bur.gt P none zs=done++Bur.gt P cur (zs.drop k))/\wr.ownsRow w.heap.size 346 2 v (rowOf done cur).length (spV (rowOf done cur))/\Below w.heap.size w wr) (fun _ _ i _=>zs.length - (intOf i).toNat)
 case atStart=>exact⟨0,[],none,by omega,rfl,rfl,by simp[rowOf],rfl,World.ownsRow_nil _ _ _ _,below_self _⟩
 case round=>
  obtain⟨k,done,cur,hk,rfl,rfl,hrl,R,hown,hb⟩:=hrel
  have hsz:=hb.size
  by_cases hlt:k<zs.length
  ·have hlt':(k:Int)<(zs.length:Int):=by omega
   obtain⟨b,off,rfl,hbl,hc⟩:=hq (by omega)
   obtain⟨z,hz'⟩:∃ z,z=zs.getD k 0:=⟨_,rfl⟩
   have c0:wr.cell? ⟨b,off+k,none⟩=some (.int .i64 z):=by rw[hz'];exact (hb.cell (p:=⟨b,off+k,none⟩) hbl).trans (hc k hlt)
   have hd:Hid (zs.drop k=z :: zs.drop (k+1)):=by show _=_;rw[hz'];exact drop_int hlt
   have bz:=hB z (List.mem_of_mem_drop (by rw[hd.out];simp))
   have HF:=hF z wr hb
   clear hz' hc hq hB hF
   cases hp:P z
   ·cases cur with
    | none=>
     have R2:Hid (Bur.gt P none zs=done++Bur.gt P none (zs.drop (k+1))):=by
      show _=_
      rw[R.out,hd.out,Bur.gt,if_neg (by simp[hp])]
     have H:Hid _:=hp
     clear R hd hp
     go_wp2_with (go_at_call 317;refine HF.mono ?_;rintro e w1 ⟨rfl,hb1⟩;rw[H.out];have hb2:=below_via hb hb1;have hown2:=own_below hown hb1;clear hb1)
     exact⟨⟨k+1,done,none,by omega,by go_num,rfl,by omega,R2,hown2,hb2⟩,by simp[intOf];omega⟩
    | some a=>
     have R2:Hid (Bur.gt P none zs=(done ++ [(a,z - 1)])++Bur.gt P none (zs.drop (k+1))):=by
      show _=_
      rw[R.out,hd.out,Bur.gt,if_neg (by simp[hp])];simp
     have H:Hid _:=hp
     have hrl':done.length+1<=k:=by simpa [rowOf] using hrl
     have hown':=hown
     simp only [rowOf,List.length_append,List.length_cons,List.length_nil,Nat.zero_add] at hown'
     clear R hd hp hown hrl
     obtain⟨g,cp,rfl,hg0,hg1⟩:=hown'.form (by omega)
     go_wp2_with (go_at_call 317;refine HF.mono ?_;rintro e w1 ⟨rfl,hb1⟩;rw[H.out];have hb2:=below_via hb hb1;have hown2:=own_below hown' hb1;have g1:w1.cell? ⟨g,done.length*2+1,none⟩=some (.int .i64 0):=(hown2.cellAt (done.length*2+1) (by omega)).trans (by rw[spV_app,List.getElem?_append_right (by rw[spV_len];omega),spV_len,show done.length*2+1 - done.length*2=1 from by omega];rfl);have g2:w1.frozen? ⟨g,done.length*2+1,none⟩=false:=hown2.frozenAt _;have hst:=hown2.stored (done.length*2+1) (.int .i64 (z - 1));clear hb1 hown2)
     obtain⟨s1,s2⟩:=hst
     rw[spV_close done a (z - 1) done.length rfl] at s1
     exact⟨⟨k+1,done ++ [(a,z - 1)],none,by omega,by go_num,rfl,by simp[rowOf];omega,R2,by simpa [rowOf] using s1,hb2.setCell (by exact hg0) _⟩,by simp[intOf];omega⟩
   ·cases cur with
    | some a=>
     have R2:Hid (Bur.gt P none zs=done++Bur.gt P (some a) (zs.drop (k+1))):=by
      show _=_
      rw[R.out,hd.out,Bur.gt,if_pos hp]
     have H:Hid _:=hp
     clear R hd hp
     go_wp2_with (go_at_call 317;refine HF.mono ?_;rintro e w1 ⟨rfl,hb1⟩;rw[H.out];have hb2:=below_via hb hb1;have hown2:=own_below hown hb1;clear hb1)
     exact⟨⟨k+1,done,some a,by omega,by go_num,rfl,by omega,R2,hown2,hb2⟩,by simp[intOf];omega⟩
    | none=>
     have R2:Hid (Bur.gt P none zs=done++Bur.gt P (some z) (zs.drop (k+1))):=by
      show _=_
      rw[R.out,hd.out,Bur.gt,if_pos hp]
     have H:Hid _:=hp
     have hrl':done.length<=k:=by simpa [rowOf] using hrl
     have hown':=hown
     simp only [rowOf] at hown'
     clear R hd hp hown hrl
     go_wp2_with (first|(go_at_call 317;refine HF.mono ?_;rintro e w1 ⟨rfl,hb1⟩;rw[H.out];have hb2:=below_via hb hb1;have hown2:=own_below hown' hb1;have hsz2:=hb2.size;clear hb1)|(at_builtin;refine wpList_append_own _ rfl _ _ 342 rfl w.heap.size 346 i0 (.agg #[.int .i64 0,.int .i64 0]) 2 16 Tryz.underlying342 hi hz0 hz1 hz2 rfl (by decide) _ _ _ rfl (hown2.alloc _) ⟨w1.heap.size,0,none⟩ 1 1 [.int .i64 z,.int .i64 0] rfl rfl ?c1 ?c2 ?c3 ?c4 ?c5 ?_))
     case c1=>
      intro j u hj
      match j,hj with
      | 0,hj=>simp at hj;subst hj;simp[Addr.add]
      | 1,hj=>simp at hj;subst hj;simp[Addr.add]
     case c2=>intro u hu;simp at hu;rcases hu with rfl|rfl <;> rfl
     case c3=>unfold maxLen;omega
     case c4=>omega
     case c5=>simp;omega
     intro v' w2 hown3 hgrow _
     have hb3:Below w.heap.size w w2:=(below_al hb2 _).grown hgrow (by simp;omega) (fun j hj=>(hown2.lt j hj).1)
     clear hown2 hgrow hown'
     go_wp2
     exact⟨⟨k+1,done,some z,by omega,by go_num,rfl,by simp[rowOf];omega,R2,by simpa [rowOf,spV_app,spV] using hown3,hb3⟩,by simp[intOf];omega⟩
  ·have hd:zs.drop k=[]:=List.drop_eq_nil_of_le (by omega)
   have R2:Hid (Bur.gt P none zs=rowOf done cur):=by
    show _=_
    rw[R.out,hd]
    cases cur <;> simp[Bur.gt,rowOf]
   rw[<- R2.out] at hown
   clear R R2 hd hF hq
   go_wp2
   rcases hown.2 with ⟨rfl,h0⟩|⟨g,cp,cur',rfl,_⟩
   ·go_ret
    exact⟨none,0,by rw[h0];rfl,fun h=>by omega,hb⟩
   ·go_ret
    exact⟨some ⟨g,0,none⟩,cp,rfl,(spAt_own hown).2,hb⟩
end Go.Proofs.YtcjdoeclblhaeaaGreatDoor.Sa
namespace Go.Proofs.YtcjdoeclblhaeaaGreatDoor.Ta
open Go.RowKit
abbrev lo (l:List Bur.Sp) (i:Nat):Int:=(l.getD i (0,0)).1
abbrev hi (l:List Bur.Sp) (i:Nat):Int:=(l.getD i (0,0)).2
def SpC (w:World) (b off:Nat) (l:List Bur.Sp):Prop:=
 ∀ i,i<l.length->w.cell? ⟨b,off+i*2,none⟩=some (.int .i64 (lo l i))/\w.cell? ⟨b,off+i*2+1,none⟩=some (.int .i64 (hi l i))
def SpAt (w:World) (p:Option Addr) (l:List Bur.Sp):Prop:=
 0<l.length -> ∃ b off,p=some ⟨b,off,none⟩/\b<w.heap.size/\SpC w b off l
theorem SpAt.step {w w':World} {p:Option Addr} {l:List Bur.Sp} (h:SpAt w p l) (hb:Below w.heap.size w w'):SpAt w' p l:=by
 intro hl
 obtain⟨b,off,rfl,hlt,hc⟩:=h hl
 refine⟨b,off,rfl,Nat.lt_of_lt_of_le hlt hb.size,fun i hi=>?_⟩
 rw[hb.cell (p:=⟨b,off+i*2,none⟩) hlt,hb.cell (p:=⟨b,off+i*2+1,none⟩) hlt]
 exact hc i hi
theorem SpAt.alloc {w:World} {p:Option Addr} {l:List Bur.Sp} (h:SpAt w p l) (o:Obj):SpAt (w.alloc o) p l:=h.step (below_al (below_self _) _)
theorem SpAt.nil (w:World) (p:Option Addr):SpAt w p []:=fun h=>by simp at h
theorem drop_sp {l:List Bur.Sp} {k:Nat} (h:k<l.length):l.drop k=(lo l k,hi l k) :: l.drop (k+1):=by
 rw[List.drop_eq_getElem_cons h]
 simp only [lo,hi,List.getD,List.getElem?_eq_getElem h,Option.getD_some]
theorem own_below {w w':World} {B e size n:Nat} {v:Value} {xs:List Value} (h:w.ownsRow B e size v n xs) (hb:Below w.heap.size w w'):w'.ownsRow B e size v n xs:=by
 refine⟨h.1,?_⟩
 rcases h.2 with hn|⟨g,cap,cur,rfl,h1,hg,rest⟩
 ·exact .inl hn
 ·exact .inr ⟨g,cap,cur,rfl,h1,(hb.block g (Array.getElem?_eq_some_iff.1 hg).1).trans hg,rest⟩
def spV (l:List Bur.Sp):List Value:=l.flatMap fun s=>[.int .i64 s.1,.int .i64 s.2]
theorem spV_len:∀ l:List Bur.Sp,(spV l).length=l.length*2
 | []=>rfl
 | s :: r=>by show ((spV r).length+1+1)=_;rw[spV_len r,List.length_cons];omega
theorem spV_app (l m:List Bur.Sp):spV (l++m)=spV l++spV m:=by simp[spV]
theorem spV_at:∀ (l:List Bur.Sp) (i:Nat),i<l.length->(spV l)[i*2]? = some (.int .i64 (lo l i))/\(spV l)[i*2+1]? = some (.int .i64 (hi l i))
 | s :: r,0,_=>⟨rfl,rfl⟩
 | s :: r,i+1,h=>by
  have:=spV_at r i (by simpa using h)
  rw[show (i+1)*2=i*2+2 from by omega,show i*2+2+1=i*2+1+2 from by omega]
  exact this
theorem spAt_own {w:World} {B n cap:Nat} {p:Option Addr} {l:List Bur.Sp} (h:w.ownsRow B 105 2 (.slice p n cap) l.length (spV l)):n=l.length/\SpAt w p l:=by
 rcases h.2 with ⟨h0,h1⟩|⟨g,cap',cur,h0,_,hg,_,_,_,_⟩
 ·cases h0;exact⟨h1.symm,fun hp=>by omega⟩
 ·cases h0
  refine⟨rfl,fun _=>⟨g,0,rfl,(Array.getElem?_eq_some_iff.1 hg).1,fun i hi=>?_⟩⟩
  have:=spV_at l i hi
  rw[Nat.zero_add,h.cellAt (i*2) (by omega),h.cellAt (i*2+1) (by omega)]
  exact this
end Go.Proofs.YtcjdoeclblhaeaaGreatDoor.Ta
namespace Go.Proofs.YtcjdoeclblhaeaaGreatDoor.Ta
open Go.RowKit
theorem eqGuard_pfx:Tryz.prog.eqGuardType Tryz.prog.depth 105=false:=by kernel_rfl
theorem eqPfx (a l a2 l2:Int) (w:World):(Op.equalIn 10000 105 (pfx a l) (pfx a2 l2)).run Tryz.prog w=.ok (Bur.sm (a,l) (a2,l2)) w:=by
 have u3:=Tryz.underlying3
 have a3:=Tryz.isAgg3
 have z3:=Tryz.sizeOf3
 have hS:Tryz.prog.underlying 105=some (.struct (Tryz.prog.fieldsOf 105)):=by kernel_rfl
 have hp:Tryz.prog.stoodInHeld 105=false:=by kernel_rfl
 rw[show (10000:Nat)=9999+1 from rfl,run_equalIn_agg w 9999 105 _ _ hS hp]
 simp only [Program.fieldsOf,Tryz.underlying105]
 go_simp
 unfold Bur.sm
 by_cases h1:a=a2 <;> by_cases h2:l=l2 <;> simp[h1,h2]
end Go.Proofs.YtcjdoeclblhaeaaGreatDoor.Ta
namespace Go.Proofs.YtcjdoeclblhaeaaGreatDoor.Ha
open Go.RowKit
def InAt (w:World) (p:Option Addr) (zs:List Int):Prop:=
 0<zs.length -> ∃ b off,p=some ⟨b,off,none⟩/\b<w.heap.size /\ ∀ i,i<zs.length->w.cell? ⟨b,off+i,none⟩=some (.int .i64 (zs.getD i 0))
theorem InAt.step {w w':World} {p:Option Addr} {zs:List Int} (h:InAt w p zs) (hb:Below w.heap.size w w'):InAt w' p zs:=by
 intro hl
 obtain⟨b,off,rfl,hlt,hc⟩:=h hl
 refine⟨b,off,rfl,Nat.lt_of_lt_of_le hlt hb.size,fun i hi=>?_⟩
 rw[hb.cell (p:=⟨b,off+i,none⟩) hlt]
 exact hc i hi
theorem drop_int {zs:List Int} {k:Nat} (h:k<zs.length):zs.drop k=zs.getD k 0 :: zs.drop (k+1):=by
 rw[List.drop_eq_getElem_cons h]
 simp only [List.getD,List.getElem?_eq_getElem h,Option.getD_some]
theorem take_int {zs:List Int} {k:Nat} (h:k<zs.length):zs.take (k+1)=zs.take k ++ [zs.getD k 0]:=by
 rw[List.take_add_one]
 simp[List.getD,List.getElem?_eq_getElem h]
theorem usable (a l:Int) (w:World):Calls Tryz.prog 290 #[pfx a l] w fun e w'=>e=.returned (.tuple #[pfx (Bur.usS (a,l)).1 (Bur.usS (a,l)).2,ev (Bur.fault a l)])/\Below w.heap.size w w':=by
 by_cases h:Bur.fault a l=0
 ·obtain⟨h0,h1,a0,a1,hz⟩:=Bur.fault_ok h
  have hp:=Bur.sz_pos l
  have hq:=Bur.sz_le l h0
  by_cases h31:31<=l
  ·rw[show Bur.usS (a,l)=(a,a+(Bur.sz l - 1)) from by rw[Bur.usS,if_pos h,Bur.usa,if_pos (by show 30<l;omega)];show (a,a+Bur.sz l - 1)=_;rw[Int.add_sub_assoc],show ev (Bur.fault a l)=.nilIface from by rw[h,ev_0]]
   go_enter Tryz.func290,Tryz.ntmps290
   go_wp2_with (go_at_call 302;refine (ends_ok _ _ _ h).mono ?_;rintro e w' ⟨rfl,hb⟩;have c1:w'.cell? ⟨w.heap.size,1,none⟩=some (.int .i64 l):=(hb.cell (p:=⟨w.heap.size,1,none⟩) (by simp;omega)).trans (by simp);have c2:w'.frozen? ⟨w.heap.size+1,0,none⟩=false:=(hb.frozen (p:=⟨w.heap.size+1,0,none⟩) (by simp)).trans (by simp);have c3:w'.frozen? ⟨w.heap.size+1,1,none⟩=false:=(hb.frozen (p:=⟨w.heap.size+1,1,none⟩) (by simp)).trans (by simp);have c4:w'.cell? ⟨w.heap.size+1,0,none⟩=some (.int .i64 0):=(hb.cell (p:=⟨w.heap.size+1,0,none⟩) (by simp)).trans (by simp);have c5:w'.cell? ⟨w.heap.size+1,1,none⟩=some (.int .i64 0):=(hb.cell (p:=⟨w.heap.size+1,1,none⟩) (by simp)).trans (by simp);have hb2:=below_via (below_al (below_al (below_self w) _) _) hb;clear hb)
   exact bodyPost_ret (v:=.tuple #[pfx a (a+(Bur.sz l - 1)),.nilIface]) (by simp[results,Tryz.results290,go_sem,c4,c5]) rfl ⟨rfl,by repeat (first|exact hb2|refine Below.setCell ?_ (by simp) _)⟩
  ·rw[show Bur.usS (a,l)=(a+1,a+(Bur.sz l - 1) - 1) from by rw[Bur.usS,if_pos h,Bur.usa,if_neg (by show ¬ 30<l;omega)];show (a+1,a+Bur.sz l - 2)=_;rw[show a+Bur.sz l - 2=a+(Bur.sz l - 1) - 1 from by omega],show ev (Bur.fault a l)=.nilIface from by rw[h,ev_0]]
   go_enter Tryz.func290,Tryz.ntmps290
   go_wp2_with (go_at_call 302;refine (ends_ok _ _ _ h).mono ?_;rintro e w' ⟨rfl,hb⟩;have c1:w'.cell? ⟨w.heap.size,1,none⟩=some (.int .i64 l):=(hb.cell (p:=⟨w.heap.size,1,none⟩) (by simp;omega)).trans (by simp);have c2:w'.frozen? ⟨w.heap.size+1,0,none⟩=false:=(hb.frozen (p:=⟨w.heap.size+1,0,none⟩) (by simp)).trans (by simp);have c3:w'.frozen? ⟨w.heap.size+1,1,none⟩=false:=(hb.frozen (p:=⟨w.heap.size+1,1,none⟩) (by simp)).trans (by simp);have c4:w'.cell? ⟨w.heap.size+1,0,none⟩=some (.int .i64 0):=(hb.cell (p:=⟨w.heap.size+1,0,none⟩) (by simp)).trans (by simp);have c5:w'.cell? ⟨w.heap.size+1,1,none⟩=some (.int .i64 0):=(hb.cell (p:=⟨w.heap.size+1,1,none⟩) (by simp)).trans (by simp);have hb2:=below_via (below_al (below_al (below_self w) _) _) hb;clear hb)
   exact bodyPost_ret (v:=.tuple #[pfx (a+1) (a+(Bur.sz l - 1) - 1),.nilIface]) (by simp[results,Tryz.results290,go_sem,c4,c5]) rfl ⟨rfl,by repeat (first|exact hb2|refine Below.setCell ?_ (by simp) _)⟩
 ·rw[show Bur.usS (a,l)=(0,0) from if_neg h,ev_ne h]
  go_enter Tryz.func290,Tryz.ntmps290
  go_wp2_with (go_at_call 302;refine (ends_no _ _ _ h).mono ?_;rintro e w' ⟨rfl,hb⟩;have c2:w'.frozen? ⟨w.heap.size+1,0,none⟩=false:=(hb.frozen (p:=⟨w.heap.size+1,0,none⟩) (by simp)).trans (by simp);have c3:w'.frozen? ⟨w.heap.size+1,1,none⟩=false:=(hb.frozen (p:=⟨w.heap.size+1,1,none⟩) (by simp)).trans (by simp);have c4:w'.cell? ⟨w.heap.size+1,0,none⟩=some (.int .i64 0):=(hb.cell (p:=⟨w.heap.size+1,0,none⟩) (by simp)).trans (by simp);have c5:w'.cell? ⟨w.heap.size+1,1,none⟩=some (.int .i64 0):=(hb.cell (p:=⟨w.heap.size+1,1,none⟩) (by simp)).trans (by simp);have hb2:=below_via (below_al (below_al (below_self w) _) _) hb;clear hb)
  exact bodyPost_ret (v:=.tuple #[pfx 0 0,errN (Bur.fault a l)]) (by simp[results,Tryz.results290,go_sem,c4,c5]) rfl ⟨rfl,by repeat (first|exact hb2|refine Below.setCell ?_ (by simp) _)⟩
theorem checkUsed (u:List Int) (p:Option Addr) (cap:Nat) (w:World) (hl:u.length<=9223372036854775807) (hu:InAt w p u) :
  Calls Tryz.prog 291 #[.slice p u.length cap] w fun e w'=>e=.returned (ev (if 200<u.length then 3 else Bur.adF u))/\Below w.heap.size w w':=by
 by_cases h200:200<u.length
 ·rw[if_pos h200]
  go_enter Tryz.func291,Tryz.ntmps291
  go_wp2
  go_ret
  exact⟨rfl,below_self _⟩
 rw[if_neg h200]
 go_enter Tryz.func291,Tryz.ntmps291
 go_wp2
 go_loopw [11] (fun i wr=>∃ k:Nat,k<=u.length/\i=.int .i64 k/\Hid (Bur.adF u=Bur.adF (u.drop k))/\Below w.heap.size w wr) (fun i _=>u.length - (intOf i).toNat)
 case atStart=>exact⟨0,by omega,rfl,rfl,below_self _⟩
 case round=>
  obtain⟨k,hk,rfl,R,hb⟩:=hrel
  by_cases hlt:k<u.length
  ·have hlt':(k:Int)<(u.length:Int):=by omega
   obtain⟨b,off,rfl,hbl,hc⟩:=hu (by omega)
   have c0:wr.cell? ⟨b,off+k,none⟩=some (.int .i64 (u.getD k 0)):=(hb.cell (p:=⟨b,off+k,none⟩) hbl).trans (hc k hlt)
   obtain⟨z,hz⟩:∃ z,z=u.getD k 0:=⟨_,rfl⟩
   rw[<- hz] at c0
   have D:Hid (Bur.adF u=if Bur.isA z=true then Bur.adF (u.drop (k+1)) else 1):=by
    show _=_
    rw[R.out,drop_int hlt,<- hz];rfl
   clear hz hc hu R
   cases hA:Bur.isA z
   ·go_wp2_with (go_at_call 87;refine (isAddress _ _).mono ?_;rintro e w' ⟨rfl,hw⟩;have:=hw.symm;subst this)
    go_ret
    exact⟨by rw[D.out,hA];rfl,hb⟩
   ·go_wp2_with (go_at_call 87;refine (isAddress _ _).mono ?_;rintro e w' ⟨rfl,hw⟩;have:=hw.symm;subst this)
    exact⟨⟨k+1,by omega,by go_num,by show _=_;rw[D.out,if_pos hA],hb⟩,by simp[intOf];omega⟩
  ·have hd:u.drop k=[]:=List.drop_eq_nil_of_le (by omega)
   go_wp2
   go_ret
   exact⟨by rw[R.out,hd];rfl,hb⟩
end Go.Proofs.YtcjdoeclblhaeaaGreatDoor.Ha
namespace Go.Proofs.YtcjdoeclblhaeaaGreatDoor.Ha
open Go.RowKit Go.Maps
def tkD (lo hi:Int) (u:List Int):DataW Unit:=Maps.setOf (.agg []) ((Bur.tk lo hi u).map (Lit.int .i64))
theorem any_key (x:Int):∀ l:List Int,(l.map (Lit.int .i64)).any (fun y=>y.sameKey (.int .i64 x))=decide (x∈l)
 | []=>rfl
 | a :: r=>by
  rw[List.map_cons,List.any_cons,any_key x r]
  show (decide (IntKind.i64=IntKind.i64/\a=x) || decide (x∈r))=_
  by_cases e:a=x
  ·subst e;simp
  ·have e':¬ x=a:=fun h=>e h.symm
   simp[e,e']
theorem lits_key (l:List Int):∀ x∈l.map (Lit.int .i64),WideAt.IsKeyLit x:=fun x hx=>by obtain⟨_,_,rfl⟩:=List.mem_map.1 hx;trivial
theorem has_tk (lo hi x:Int) (u:List Int):Maps.has (tkD lo hi u) (.int .i64 x)=decide (x∈Bur.tk lo hi u):=by
 unfold tkD
 rw[has_setOf _ _ _ (lits_key _)]
 exact any_key x _
theorem tkD_nil (lo hi:Int):tkD lo hi []=.map []:=rfl
theorem tkD_in {lo hi x:Int} (h1:lo<=x) (h2:x<=hi) (u:List Int):tkD lo hi (u ++ [x])=(tkD lo hi u).put (.int .i64 x) (.agg []):=by
 unfold tkD
 rw[Bur.tk_snoc,if_pos ⟨h1,h2⟩,List.map_append,List.map_singleton,setOf_snoc]
theorem tkD_out {lo hi x:Int} (h:¬ (lo<=x/\x<=hi)) (u:List Int):tkD lo hi (u ++ [x])=tkD lo hi u:=by
 unfold tkD
 rw[Bur.tk_snoc,if_neg h]
theorem map_below {w w':World} {k b n:Nat} {R:Value->Option (DataW Unit×List MemPlace)} {D:DataW Unit} (h:w.ownsMap Tryz.prog k R b n D) (hb:Below w.heap.size w w'):w'.ownsMap Tryz.prog k R b n D:=by
 obtain⟨es,clock,h1,r⟩:=h
 exact⟨es,clock,(hb.block b (Array.getElem?_eq_some_iff.1 h1).1).trans h1,r⟩
theorem keyInt:Keyed Tryz.prog 3:=int_keyed Tryz.underlying3
theorem zeroUnit (w:World):(zeroValue 46).run Tryz.prog w=.ok (.agg #[]) w:=by kernel_rfl
theorem key_adr {x:Int} (h:Bur.isA x=true):keyOf Tryz.prog 3 (.int .i64 x)=some (.int .i64 x):=keyOf_int_mk Tryz.underlying3 (by have:=Bur.isA_true h;exact WalkArith.wf_i64 (by omega))
theorem taken_no (a l:Int) (u:List Int) (p:Option Addr) (cap:Nat) (w:World) (hl:u.length<=9223372036854775807) (hu:InAt w p u) (h:Bur.usF (a,l) u≠0) :
  Calls Tryz.prog 265 #[pfx a l,.slice p u.length cap] w fun e w'=>e=.returned (.tuple #[pfx 0 0,.map none,errN (Bur.usF (a,l) u)])/\Below w.heap.size w w':=by
 have hbA:Below w.heap.size w ((w.alloc (.cells #[.int .i64 a,.int .i64 l] 105)).alloc (.cells #[.int .i64 0,.int .i64 0] 346)):=below_al (below_al (below_self w) _) _
 have bx0:=Bx.new (w.alloc (.cells #[.int .i64 a,.int .i64 l] 105)) 346 0 0
 rw[World.size_alloc] at bx0
 by_cases hf:Bur.fault a l=0
 ·have E:Bur.usF (a,l) u=if 200<u.length then 3 else Bur.adF u:=if_pos hf
  have H:Hid (ev (if 200<u.length then 3 else Bur.adF u)=errN (Bur.usF (a,l) u)):=by show _=_;rw[<- E];exact ev_ne h
  have H0:Hid (ev (Bur.fault a l)=.nilIface):=by show _=_;rw[hf];rfl
  clear E hf
  go_enter Tryz.func265,Tryz.ntmps265
  go_wp2_with fail
  refine (usable _ _ _).mono ?_
  rintro e w1 ⟨rfl,hb1⟩
  have bx1:=bx0.step hb1
  replace hb1:=below_via hbA hb1
  have hu1:=hu.step hb1
  have bx2:=fun o=>bx1.step (below_al (below_self w1) o)
  have hb2:=fun o=>below_al hb1 o
  have hu2:=fun o=>hu1.step (below_al (below_self w1) o)
  rw[H0.out]
  clear hu hbA bx0 bx1 hb1 hu1 H0
  go_wp2_with fail
  refine (checkUsed u p cap _ hl (hu2 _)).mono ?_
  rintro e w2 ⟨rfl,hb3⟩
  obtain⟨c0,c1,f0,f1⟩:=(bx2 _).step hb3
  have hb4:=below_via (hb2 _) hb3
  rw[H.out]
  clear bx2 hb2 hu2 hb3 H h
  go_wp2
  exact bodyPost_ret (v:=.tuple #[pfx 0 0,.map none,errN (Bur.usF (a,l) u)]) (by simp[results,Tryz.results265,go_sem,c0,c1]) rfl ⟨rfl,by repeat (first|exact hb4|refine Below.setCell ?_ (by simp) _)⟩
 ·have E:Bur.usF (a,l) u=Bur.fault a l:=if_neg hf
  have H0:Hid (ev (Bur.fault a l)=errN (Bur.fault a l)):=ev_ne hf
  rw[E]
  clear E hf h
  go_enter Tryz.func265,Tryz.ntmps265
  go_wp2_with fail
  refine (usable _ _ _).mono ?_
  rintro e w1 ⟨rfl,hb1⟩
  have bx1:=bx0.step hb1
  replace hb1:=below_via hbA hb1
  rw[H0.out]
  obtain⟨c0,c1,f0,f1⟩:=bx1.step (below_al (below_self w1) (.cells #[.int .i64 (Bur.usS (a,l)).1,.int .i64 (Bur.usS (a,l)).2] 346))
  have hb2:=below_al hb1 (.cells #[.int .i64 (Bur.usS (a,l)).1,.int .i64 (Bur.usS (a,l)).2] 346)
  clear hu hbA bx0 bx1 hb1 H0
  go_wp2
  exact bodyPost_ret (v:=.tuple #[pfx 0 0,.map none,errN (Bur.fault a l)]) (by simp[results,Tryz.results265,go_sem,c0,c1]) rfl ⟨rfl,by repeat (first|exact hb2|refine Below.setCell ?_ (by simp) _)⟩
theorem taken_ok (a l:Int) (u:List Int) (p:Option Addr) (cap:Nat) (w:World) (hu:InAt w p u) (h:Bur.usF (a,l) u=0) :
  Calls Tryz.prog 265 #[pfx a l,.slice p u.length cap] w fun e w'=>∃ B,w.heap.size<=B/\e=.returned (.tuple #[pfx (Bur.usa (a,l)).1 (Bur.usa (a,l)).2,.map (some B),.nilIface])/\w'.ownsMap Tryz.prog 3 unitElem B u.length (tkD (Bur.usa (a,l)).1 (Bur.usa (a,l)).2 u)/\Below w.heap.size w w':=by
 have hmm:=@run_makeMap Tryz.prog
 have hbA:Below w.heap.size w ((w.alloc (.cells #[.int .i64 a,.int .i64 l] 105)).alloc (.cells #[.int .i64 0,.int .i64 0] 346)):=below_al (below_al (below_self w) _) _
 have bx0:=Bx.new (w.alloc (.cells #[.int .i64 a,.int .i64 l] 105)) 346 0 0
 rw[World.size_alloc] at bx0
 obtain⟨hp,hl,hA⟩:=Bur.usF_ok h
 have hf:Bur.fault a l=0:=hp
 obtain⟨x,hx⟩:∃ x,x=(Bur.usa (a,l)).1:=⟨_,rfl⟩
 obtain⟨y,hy⟩:∃ y,y=(Bur.usa (a,l)).2:=⟨_,rfl⟩
 have hus:Hid (Bur.usS (a,l)=(x,y)):=by show _=_;rw[hx,hy];exact if_pos hf
 have H:Hid (ev (if 200<u.length then 3 else Bur.adF u)=.nilIface):=by show _=_;rw[<- show Bur.usF (a,l) u=if 200<u.length then 3 else Bur.adF u from if_pos hf,h];rfl
 have H0:Hid (ev (Bur.fault a l)=.nilIface):=by show _=_;rw[hf];rfl
 have hin:=Bur.usa_in hp
 rw[<- hx,<- hy] at hin ⊢
 clear hf h hp hx hy
 go_enter Tryz.func265,Tryz.ntmps265
 go_wp2_with fail
 refine (usable _ _ _).mono ?_
 rintro e w1 ⟨rfl,hb1⟩
 rw[hus.out,H0.out]
 have bx1:=bx0.step hb1
 replace hb1:=below_via hbA hb1
 have hu1:=hu.step hb1
 have bs:=Bx.new w1 346 x y
 have bx2:=bx1.step (below_al (below_self w1) (.cells #[.int .i64 x,.int .i64 y] 346))
 have hb2:=below_al hb1 (.cells #[.int .i64 x,.int .i64 y] 346)
 have hu2:=hu1.step (below_al (below_self w1) (.cells #[.int .i64 x,.int .i64 y] 346))
 have hs1:=hb1.size
 clear hu hbA bx0 bx1 hb1 hu1 H0 hus
 go_wp2_with fail
 refine (checkUsed u p cap _ (by omega) hu2).mono ?_
 rintro e w2 ⟨rfl,hb3⟩
 replace bx2:=bx2.step hb3
 replace bs:=bs.step hb3
 replace hu2:=hu2.step hb3
 replace hb2:=below_via hb2 hb3
 rw[H.out]
 clear hb3 H
 go_wp2
 go_loopw [31] (fun i wr=>∃ k:Nat,k<=u.length/\i=.int .i64 k/\wr.ownsMap Tryz.prog 3 unitElem w2.heap.size k (tkD x y (u.take k))/\Below w2.heap.size w2 wr) (fun i _=>u.length - (intOf i).toNat)
 case atStart=>exact⟨0,by omega,rfl,by rw[List.take_zero,tkD_nil];exact World.ownsMap_made _ _ _ _,below_al (below_self _) _⟩
 case round=>
  obtain⟨k,hk,rfl,hown,hb⟩:=hrel
  obtain⟨s0,s1,_,_⟩:=bs.step hb
  by_cases hlt:k<u.length
  ·have hlt':(k:Int)<(u.length:Int):=by omega
   obtain⟨b,off,rfl,hbl,hc⟩:=hu2 (by omega)
   have c0:wr.cell? ⟨b,off+k,none⟩=some (.int .i64 (u.getD k 0)):=(hb.cell (p:=⟨b,off+k,none⟩) hbl).trans (hc k hlt)
   have hT:Hid (u.take (k+1)=u.take k ++ [u.getD k 0]):=take_int hlt
   have hZ:Bur.isA (u.getD k 0)=true:=hA _ (by simp[List.getD,List.getElem?_eq_getElem hlt])
   obtain⟨z,hz⟩:∃ z,z=u.getD k 0:=⟨_,rfl⟩
   rw[<- hz] at c0 hT hZ
   have hkey:=key_adr hZ
   have hzz:=Bur.isA_true hZ
   clear hz hc hu2 hZ bx2 bs hA
   by_cases h1:x<=z
   ·by_cases h2:z<=y
    ·go_wp2_with (first
      | (at_mapUpdate;refine wpList_mapUpdate_own _ rfl _ _ _ 349 rfl 3 46 keyInt Tryz.underlying349 (unitElem (H:=Unit)) w2.heap.size k _ rfl hown (by unfold maxLen;omega) _ _ _ rfl rfl hkey _ [] unitElem_mk ?_;intro w3 hown1 hgrow1)
      | go_in)
     exact⟨⟨k+1,by omega,by go_num,by rw[hT.out,tkD_in h1 h2];exact hown1,hb.grown hgrow1 hb.size (fun j hj=>by cases hj;exact Nat.le_refl _)⟩,by simp[intOf];omega⟩
    ·go_wp2
     exact⟨⟨k+1,by omega,by go_num,by rw[hT.out,tkD_out (by omega)];exact hown.mono (Nat.le_succ _),hb⟩,by simp[intOf];omega⟩
   ·go_wp2
    exact⟨⟨k+1,by omega,by go_num,by rw[hT.out,tkD_out (by omega)];exact hown.mono (Nat.le_succ _),hb⟩,by simp[intOf];omega⟩
  ·obtain⟨c0,c1,f0,f1⟩:=bx2.step hb
   have hE:k=u.length:=by omega
   have hown':wr.ownsMap Tryz.prog 3 unitElem w2.heap.size u.length (tkD x y u):=by rw[hE,List.take_length] at hown;exact hown
   have hne:w2.heap.size≠w.heap.size+1:=fun g=>by have:=bx2.lt;omega
   have hs2:=hb2.size
   have hB:=below_via hb2 hb
   have hv1:=(hown'.setCell (a:=⟨w.heap.size+1,0,none⟩) hne (.int .i64 x)).setCell (a:=⟨w.heap.size+1,1,none⟩) hne (.int .i64 y)
   clear hown hA hu2 bx2 bs
   go_wp2
   exact bodyPost_ret (v:=.tuple #[pfx x y,.map (some w2.heap.size),.nilIface]) (by simp[results,Tryz.results265,go_sem,c0,c1]) rfl ⟨w2.heap.size,hs2,rfl,hv1,by repeat (first|exact hB|refine Below.setCell ?_ (by simp) _)⟩
theorem next (a l:Int) (u:List Int) (p:Option Addr) (cap:Nat) (w:World) (hl:u.length<=9223372036854775807) (hu:InAt w p u) :
  Calls Tryz.prog 219 #[pfx a l,.slice p u.length cap] w fun e w'=>e=.returned (.tuple #[.int .i64 (Bur.nxS (a,l) u),ev (Bur.nxF (a,l) u)])/\Below w.heap.size w w':=by
 have hbA:=below_al (below_self w) (.cells #[.int .i64 a,.int .i64 l] 105)
 by_cases h:Bur.usF (a,l) u=0
 ·have hin:=Bur.usa_in (Bur.usF_ok h).1
  have K:=taken_ok _ _ u p cap _ (hu.step hbA) h
  have hN:Bur.nxt (a,l) u=Bur.nxN u ((Bur.usa (a,l)).2 - (Bur.usa (a,l)).1+1).toNat (Bur.usa (a,l)).1:=rfl
  rw[show Bur.nxS (a,l) u=(Bur.nxt (a,l) u).getD 0 from if_pos h,show Bur.nxF (a,l) u=if (Bur.nxt (a,l) u).isSome=true then 0 else 4 from if_pos h]
  obtain⟨x,hx⟩:∃ x,x=(Bur.usa (a,l)).1:=⟨_,rfl⟩
  obtain⟨y,hy⟩:∃ y,y=(Bur.usa (a,l)).2:=⟨_,rfl⟩
  obtain⟨N,hNN⟩:∃ N,N=Bur.nxt (a,l) u:=⟨_,rfl⟩
  rw[<- hx,<- hy] at hin K hN
  rw[<- hNN] at hN ⊢
  obtain⟨R,hR⟩:∃ R,R=Ending.returned (.tuple #[.int .i64 (N.getD 0),ev (if N.isSome=true then 0 else 4)]):=⟨_,rfl⟩
  rw[<- hR]
  replace hN:Hid _:=hN
  replace hR:Hid _:=hR
  clear hx hy h hu hNN
  go_enter Tryz.func219,Tryz.ntmps219
  go_wp2_with fail
  refine K.mono ?_
  rintro e w1 ⟨B,hB,rfl,hown,hb1⟩
  have hb2:=below_al (below_via hbA hb1) (.cells #[.int .i64 x,.int .i64 y] 346)
  have hownA:=hown.alloc (.cells #[.int .i64 x,.int .i64 y] 346)
  have bs:=Bx.new w1 346 x y
  clear hbA K hown hb1
  go_wp2
  obtain⟨w2,hw2⟩:∃ w2,w2=w1.alloc (.cells #[.int .i64 x,.int .i64 y] 346):=⟨_,rfl⟩
  rw[<- hw2] at hb2 hownA bs ⊢
  go_loopw [9] (fun i wr=>∃ c:Int,x<=c/\c<=y+1/\i=.int .i64 c/\Hid (N=Bur.nxN u (y - c+1).toNat c)/\Below w2.heap.size w2 wr) (fun i _=>(y+1 - intOf i).toNat)
  case atStart=>exact⟨x,by omega,by omega,rfl,hN,below_self _⟩
  case round=>
   obtain⟨c,hc1,hc2,rfl,hM,hb⟩:=hrel
   obtain⟨s0,s1,_,_⟩:=bs.step hb
   have hown:wr.ownsMap Tryz.prog 3 unitElem B u.length (tkD x y u):=map_below hownA hb
   clear hownA bs
   by_cases hlt:c<=y
   ·have hkey:=key_adr (x:=c) (Bur.isA_mk (by omega) (by omega))
    have hst:Hid _:=hM.out.trans (Bur.nxN_tk (u:=u) hc1 hlt)
    cases hm:decide (c∈Bur.tk x y u)
    ·have hE:Hid (R=Ending.returned (.tuple #[.int .i64 c,.nilIface])):=by
      show _=_
      rw[hR.out,hst.out,if_neg (by simpa using hm)];rfl
     replace hm:Hid _:=hm
     clear hst hM hR hN
     go_wp2_with (first
      | (at_lookup;refine wpList_lookup_own_unit _ rfl _ _ 349 rfl 3 46 keyInt Tryz.underlying349 (zeroUnit _) B u.length _ rfl hown _ _ rfl hkey ?_;rw[has_tk,hm.out])
      | go_in)
     go_ret2
     exact⟨by rw[hE.out];rfl,below_al (below_via hb2 hb) _⟩
    ·have hst2:Hid (N=Bur.nxN u (y - (c+1)+1).toNat (c+1)):=by
      show _=_
      rw[hst.out,if_pos (by simpa using hm)]
     replace hm:Hid _:=hm
     clear hst hM hR hN
     go_wp2_with (first
      | (at_lookup;refine wpList_lookup_own_unit _ rfl _ _ 349 rfl 3 46 keyInt Tryz.underlying349 (zeroUnit _) B u.length _ rfl hown _ _ rfl hkey ?_;rw[has_tk,hm.out])
      | go_in)
     exact⟨⟨c+1,by omega,by omega,rfl,hst2,below_al hb _⟩,by simp[intOf];omega⟩
   ·have hE:Hid (R=Ending.returned (.tuple #[.int .i64 0,errN 4])):=by
     show _=_
     rw[hR.out,hM.out,show (y - c+1).toNat=0 from by omega];rfl
    clear hM hR hN hown
    go_wp2
    go_ret2
    exact⟨by rw[hE.out];rfl,below_via hb2 hb⟩
 ·rw[show Bur.nxS (a,l) u=0 from if_neg h,show Bur.nxF (a,l) u=Bur.usF (a,l) u from if_neg h,ev_ne h]
  go_enter Tryz.func219,Tryz.ntmps219
  go_wp2_with fail
  refine (taken_no _ _ u p cap _ hl (hu.step hbA) h).mono ?_
  rintro e w1 ⟨rfl,hb1⟩
  have hb2:=below_via hbA hb1
  clear h hbA hb1 hu
  go_wp2
  go_ret2
  exact⟨rfl,below_al hb2 _⟩
end Go.Proofs.YtcjdoeclblhaeaaGreatDoor.Ha
namespace Go.Proofs.YtcjdoeclblhaeaaGreatDoor.Sa
open Go.RowKit
theorem keep3 (x y:Bool) (w:World):Calls Tryz.prog 309 #[.bool x,.bool y] w fun e w'=>e=.returned (.bool (Bur.kp 3 x y))/\w'=w:=by
 cases x <;> cases y
 all_goals
  go_enter Tryz.func309,Tryz.ntmps309
  go_wp2
  go_ret
  exact⟨rfl,rfl⟩
structure Cl (w:World) (K:Nat) (kk ia ib ca cb:Addr) (a b:List Bur.Sp):Prop where
 k:w.cell? kk=some (.func (.func K) #[] #[])
 ia:w.cell? ia=some (.func (.func 321) #[] #[.pointer (some ca)])
 ib:w.cell? ib=some (.func (.func 321) #[] #[.pointer (some cb)])
 a:Ask w ca a
 b:Ask w cb b
theorem Cl.step {w w':World} {K:Nat} {kk ia ib ca cb:Addr} {a b:List Bur.Sp} (h:Cl w K kk ia ib ca cb a b) (hb:Below w.heap.size w w'):Cl w' K kk ia ib ca cb a b:=
 ⟨(hb.cell (World.block_lt_of_cell? _ _ h.k)).trans h.k,(hb.cell (World.block_lt_of_cell? _ _ h.ia)).trans h.ia,(hb.cell (World.block_lt_of_cell? _ _ h.ib)).trans h.ib,h.a.step hb,h.b.step hb⟩
theorem ask3 (x:Int) (kk ia ib ca cb:Addr) (a b:List Bur.Sp) (w:World) (h:Cl w 309 kk ia ib ca cb a b) :
  Calls Tryz.prog 317 #[.int .i64 x,.pointer (some kk),.pointer (some ia),.pointer (some ib)] w fun e w'=>e=.returned (.bool (Bur.kp 3 (Bur.mem a x) (Bur.mem b x)))/\Below w.heap.size w w':=by
 have c1:=h.k
 have c2:=h.ia
 have c3:=h.ib
 go_enter Tryz.func317,Tryz.ntmps317
 go_wp2
 go_region_held3 (fun wy=>wy.cell? kk=some (.func (.func 309) #[] #[])/\wy.cell? ia=some (.func (.func 321) #[] #[.pointer (some ca)])/\wy.cell? ib=some (.func (.func 321) #[] #[.pointer (some cb)])) (first|exact⟨h2.k,h2.ia,h2.ib⟩|exact⟨h1.k,h1.ia,h1.ib⟩|exact⟨h.k,h.ia,h.ib⟩)
  (first
   | (go_at_call 321;refine (askOne a x ca _ (h.step (below_self _).drew).a).mono ?_;rintro e w1 ⟨rfl,hb1⟩;have h1:Cl w1 309 kk ia ib ca cb a b:=(h.step (below_self _).drew).step hb1)
   | (go_at_call 321;refine (askOne b x cb _ h1.b).mono ?_;rintro e w2 ⟨rfl,hb2⟩;have h2:Cl w2 309 kk ia ib ca cb a b:=h1.step hb2)
   | (go_at_call 309;refine (keep3 _ _ _).mono ?_;rintro e w3 ⟨rfl,rfl⟩))
 go_wp2
 go_ret
 exact⟨rfl,below_via (below_via (below_self _).drew hb1) hb2⟩
end Go.Proofs.YtcjdoeclblhaeaaGreatDoor.Sa
namespace Go.Proofs.YtcjdoeclblhaeaaGreatDoor.Sa
open Go.RowKit
theorem own_form {w:World} {B e size n:Nat} {v:Value} {xs:List Value} (h:w.ownsRow B e size v n xs):∃ p cp,v=.slice p n cp:=by
 rcases h.2 with ⟨rfl,rfl⟩|⟨g,cp,_,rfl,_⟩
 ·exact⟨_,_,rfl⟩
 ·exact⟨_,_,rfl⟩
theorem own_drewN {w:World} {B e size n:Nat} {v:Value} {xs:List Value} (h:w.ownsRow B e size v n xs) (k:Nat):(w.drewN k).ownsRow B e size v n xs:=own_below h (below_drewN (below_self _) k)
theorem two_new {W:World} {x y:Int} {t:Nat} {N:Nat} (hN:N=W.heap.size):∀ (j:Nat) (u:Value),([.int .i64 x,.int .i64 y]:List Value)[j]? = some u->(W.alloc (.cells #[.int .i64 x,.int .i64 y] t)).cell? ((⟨N,0,none⟩:Addr).add j)=some u:=by
 subst hN
 intro j u hj
 match j,hj with
 | 0,hj=>simp at hj;subst hj;simp[Addr.add]
 | 1,hj=>simp at hj;subst hj;simp[Addr.add]
theorem two_one {x y:Int}:∀ u∈([.int .i64 x,.int .i64 y]:List Value),u.oneCell'=true:=by
 intro u hu;simp at hu;rcases hu with rfl|rfl <;> rfl
def rowT (done:List Bur.Sp):Option Bur.Sp->List Bur.Sp
 | none=>done
 | some s=>done ++ [s]
theorem spV_grow (done:List Bur.Sp) (s:Bur.Sp) (e:Int):(spV (done ++ [s])).set (done.length*2+1) (.int .i64 e)=spV (done ++ [(s.1,e)]):=by
 rw[spV_app,spV_app]
 show (spV done ++ [Value.int .i64 s.1,Value.int .i64 s.2]).set (done.length*2+1) (.int .i64 e)=spV done ++ [Value.int .i64 s.1,Value.int .i64 e]
 rw[List.set_append_right _ _ (by rw[spV_len];omega),spV_len,show done.length*2+1 - done.length*2=1 from by omega]
 rfl
end Go.Proofs.YtcjdoeclblhaeaaGreatDoor.Sa
namespace Go.Proofs.YtcjdoeclblhaeaaGreatDoor.Sa
open Go.RowKit
theorem checkLen (a z n:Int) (w:World):Calls Tryz.prog 289 #[pfx a z,.int .i64 n] w fun e w'=>e=.returned (ev (Bur.lnF (a,z) n))/\Below w.heap.size w w':=by
 by_cases h:n<z
 ·have E:Hid (Bur.lnF (a,z) n=1):=if_pos (.inl h)
  go_enter Tryz.func289,Tryz.ntmps289
  go_wp2
  go_ret
  exact⟨by rw[E.out];rfl,below_al (below_self _) _⟩
 ·by_cases h2:32<n
  ·have E:Hid (Bur.lnF (a,z) n=1):=if_pos (.inr h2)
   go_enter Tryz.func289,Tryz.ntmps289
   go_wp2
   go_ret
   exact⟨by rw[E.out];rfl,below_al (below_self _) _⟩
  ·have E:Hid (Bur.lnF (a,z) n=0):=if_neg (by show ¬ (n<z \/ 32<n);omega)
   go_enter Tryz.func289,Tryz.ntmps289
   go_wp2
   go_ret
   exact⟨by rw[E.out];rfl,below_al (below_self _) _⟩
theorem fit (lo hi n:Int) (w:World) (h0:0<=lo) (h1:lo<=hi) (h2:hi<=4294967295) (n0:0<=n) (n1:n<=32) :
  Calls Tryz.prog 264 #[pfx lo hi,.int .i64 n] w fun e w'=>e=.returned (.tuple #[.int .i64 (Bur.upn (Bur.sz n) lo),.int .i64 (Bur.plc (Bur.sz n) (lo,hi))])/\Below w.heap.size w w':=by
 have hz:=Bur.sz_pos n
 have hz2:=Bur.sz_le32 n0
 have e0:wrap64 (2 ^ (32 - n).toNat)=Bur.sz n:=by
  unfold Bur.sz at *
  exact IntWalk.wrap64_in _ (by omega)
 have F1:wrap64 (wrap64 (lo+Bur.sz n) - 1)=lo+Bur.sz n - 1:=by rw[IntWalk.wrap64_in (lo+Bur.sz n) (by omega),IntWalk.wrap64_in _ (by omega)]
 have q1:0<=(lo+Bur.sz n - 1) / Bur.sz n:=Int.ediv_nonneg (by omega) (by omega)
 have q2:(lo+Bur.sz n - 1) / Bur.sz n<=lo+Bur.sz n - 1:=Int.ediv_le_self _ (by omega)
 have q3:0<=(hi+1) / Bur.sz n:=Int.ediv_nonneg (by omega) (by omega)
 have q4:(hi+1) / Bur.sz n<=hi+1:=Int.ediv_le_self _ (by omega)
 obtain⟨u1,u2,u3⟩:=Bur.upn_spec hz lo
 have F2:wrap64 ((lo+Bur.sz n - 1).tdiv (Bur.sz n))=(lo+Bur.sz n - 1) / Bur.sz n:=by rw[Int.tdiv_eq_ediv_of_nonneg (by omega),IntWalk.wrap64_in _ (by omega)]
 have F3:wrap64 ((hi+1).tdiv (Bur.sz n))=(hi+1) / Bur.sz n:=by rw[Int.tdiv_eq_ediv_of_nonneg (by omega),IntWalk.wrap64_in _ (by omega)]
 have F4:wrap64 ((lo+Bur.sz n - 1) / Bur.sz n*Bur.sz n)=Bur.upn (Bur.sz n) lo:=IntWalk.wrap64_in (Bur.upn (Bur.sz n) lo) (by omega)
 have F5:wrap64 ((hi+1) / Bur.sz n - (lo+Bur.sz n - 1) / Bur.sz n)=(hi+1) / Bur.sz n - (lo+Bur.sz n - 1) / Bur.sz n:=IntWalk.wrap64_in _ (by omega)
 have P:Hid ((Bur.plc (Bur.sz n) (lo,hi):Int)=max 0 ((hi+1) / Bur.sz n - (lo+Bur.sz n - 1) / Bur.sz n)):=Bur.plc_eq hz (lo,hi)
 go_enter Tryz.func264,Tryz.ntmps264
 go_wp2
 all_goals simp only [e0,F1,F2,F3,F4,F5] at *
 all_goals
  go_ret2
  refine⟨?_,below_al (below_self _) _⟩
  rw[P.out]
  first|rw[Int.max_eq_right (by omega)]|rw[Int.max_eq_left (by omega)]
  rfl
end Go.Proofs.YtcjdoeclblhaeaaGreatDoor.Sa
