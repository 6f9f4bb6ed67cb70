/- -/
import Derived.Test.YtcjdoeclblhaeaaGreatDoorRSpWalkA
import Derived.Shelf.Abstract
import Derived.Test.YtcjdoeclblhaeaaGreatDoorRAdBase
import Derived.Deep.CutBlock
set_option maxHeartbeats 1000000
namespace Go.Proofs.YtcjdoeclblhaeaaGreatDoor.Ta
open Go.RowKit
def idx (P:Bur.Sp->Bool):Int->List Bur.Sp->Int
 | _,[] => -1
 | k,s :: r=>if P s=true then k else idx P (k+1) r
theorem idx_any (P:Bur.Sp->Bool):∀ (l:List Bur.Sp) (k:Int),0<=k->decide (0<=idx P k l)=l.any P
 | [],k,_=>by simp[idx]
 | s :: r,k,hk=>by
  rw[idx,List.any_cons]
  cases h:P s with
  | true=>simp[hk]
  | false=>simp only [Bool.false_eq_true,if_false,Bool.false_or];exact idx_any P r (k+1) (by omega)
theorem indexFunc (g:Nat) (lb:Array Value) (eg:∀ args w,(callFunc g args).run Tryz.prog w=.ok (.enter g args) w) (P:Bur.Sp->Bool) (q:Option Addr) (cap:Nat) (l:List Bur.Sp) (w:World) (hz:l.length<=1000000) (hq:SpAt w q l)
  (hF:∀ (i:Nat) (w1:World),i<l.length->Below w.heap.size w w1->Calls Tryz.prog g (#[pfx (lo l i) (hi l i)]++lb) w1 fun e w'=>e=.returned (.bool (P (lo l i,hi l i)))/\Below w1.heap.size w1 w') :
  Calls Tryz.prog 286 #[.slice q l.length cap,.func (.func g) #[] lb] w fun e w'=>e=.returned (.int .i64 (idx P 0 l))/\Below w.heap.size w w':=by
 go_enter Tryz.func286,Tryz.ntmps286
 go_wp2
 go_loopw [8] (fun i wr=>∃ k:Nat,k<=l.length/\i=.int .i64 k/\Hid (idx P 0 l=idx P k (l.drop k))/\Below w.heap.size w wr) (fun i _=>l.length - (intOf i).toNat)
 case atStart=>exact⟨0,by omega,rfl,rfl,below_self _⟩
 case round=>
  obtain⟨k,hk,rfl,R,hb⟩:=hrel
  have hsz:=hb.size
  by_cases hlt:k<l.length
  ·have hlt':(k:Int)<(l.length:Int):=by omega
   obtain⟨b,off,rfl,hbl,hc⟩:=hq (by omega)
   have HF:=hF k wr hlt hb
   obtain⟨x,hx⟩:∃ x,x=lo l k:=⟨_,rfl⟩
   obtain⟨y,hy⟩:∃ y,y=hi l k:=⟨_,rfl⟩
   rw[<- hx,<- hy] at HF
   have c0:wr.cell? ⟨b,off+k*2,none⟩=some (.int .i64 x):=by rw[hx];exact (hb.cell (p:=⟨b,off+k*2,none⟩) hbl).trans (hc k hlt).1
   have c1:wr.cell? ⟨b,off+k*2+1,none⟩=some (.int .i64 y):=by rw[hy];exact (hb.cell (p:=⟨b,off+k*2+1,none⟩) hbl).trans (hc k hlt).2
   have hd:Hid (l.drop k=(x,y) :: l.drop (k+1)):=by show _=_;rw[hx,hy];exact drop_sp hlt
   clear hx hy hc hq hF
   cases hp:P (x,y)
   ·have R2:Hid (idx P 0 l=idx P ((k+1:Nat):Int) (l.drop (k+1))):=by
     show _=_
     rw[R.out,hd.out,idx,if_neg (by simp[hp])]
     rfl
    rw[hp] at HF
    clear R hd hp
    go_wp2_with (go_at_fn g;refine HF.mono ?_;rintro e w1 ⟨rfl,hb1⟩;have hb2:=below_via hb hb1;clear hb1)
    exact⟨⟨k+1,by omega,by go_num,R2,hb2⟩,by simp[intOf];omega⟩
   ·have R2:Hid (idx P 0 l=(k:Int)):=by
     show _=_
     rw[R.out,hd.out,idx,if_pos hp]
    rw[hp] at HF
    clear R hd hp
    go_wp2_with (go_at_fn g;refine HF.mono ?_;rintro e w1 ⟨rfl,hb1⟩;have hb2:=below_via hb hb1;clear hb1)
    go_ret
    exact⟨by rw[R2.out];rfl,hb2⟩
  ·have R2:Hid (idx P 0 l = -1):=by
    show _=_
    rw[R.out,List.drop_eq_nil_of_le (by omega)]
    rfl
   clear R hF hq
   go_wp2
   go_ret
   exact⟨by rw[R2.out];rfl,hb⟩
def PfAt (w:World) (b:Nat) (p:Bur.Sp):Prop:=b<w.heap.size/\w.cell? ⟨b,0,none⟩=some (.int .i64 p.1)/\w.cell? ⟨b,1,none⟩=some (.int .i64 p.2)
theorem PfAt.new (w:World) (a l:Int):PfAt (w.alloc (.cells #[.int .i64 a,.int .i64 l] 105)) w.heap.size (a,l):=⟨by simp,by simp,by simp⟩
def LsAt (w:World) (c:Nat) (q:Option Addr) (l:List Bur.Sp) (cap:Nat):Prop:=c<w.heap.size/\w.cell? ⟨c,0,none⟩=some (.slice q l.length cap)/\SpAt w q l
end Go.Proofs.YtcjdoeclblhaeaaGreatDoor.Ta
namespace Go.Proofs.YtcjdoeclblhaeaaGreatDoor.Ta
open Go.RowKit
theorem indexP (p:Bur.Sp) (q:Option Addr) (cap:Nat) (l:List Bur.Sp) (w:World) (hz:l.length<=1000000) (hq:SpAt w q l) :
  Calls Tryz.prog 287 #[.slice q l.length cap,pfx p.1 p.2] w fun e w'=>e=.returned (.int .i64 (idx (fun s=>Bur.sm p s) 0 l))/\Below w.heap.size w w':=by
 obtain⟨x,y⟩:=p
 have hm:=eqGuard_pfx
 have pb:PfAt (w.alloc (.cells #[.int .i64 x,.int .i64 y] 105)) w.heap.size (x,y):=PfAt.new w x y
 have hb0:Below w.heap.size w (w.alloc (.cells #[.int .i64 x,.int .i64 y] 105)):=below_al (below_self _) _
 go_enter Tryz.func287,Tryz.ntmps287
 go_wp2
 go_loopw [8] (fun i wr=>∃ k:Nat,k<=l.length/\i=.int .i64 k/\Hid (idx (fun s=>Bur.sm (x,y) s) 0 l=idx (fun s=>Bur.sm (x,y) s) k (l.drop k))/\Below w.heap.size w wr/\PfAt wr w.heap.size (x,y)) (fun i _=>l.length - (intOf i).toNat)
 case atStart=>exact⟨0,by omega,rfl,rfl,hb0,pb⟩
 case round=>
  obtain⟨k,hk,rfl,R,hb,pbw⟩:=hrel
  clear pb hb0
  have hsz:=hb.size
  by_cases hlt:k<l.length
  ·have hlt':(k:Int)<(l.length:Int):=by omega
   obtain⟨b,off,rfl,hbl,hc⟩:=hq (by omega)
   obtain⟨p0,p1,p2⟩:=pbw
   have c0:wr.cell? ⟨b,off+k*2,none⟩=some (.int .i64 (lo l k)):=(hb.cell (p:=⟨b,off+k*2,none⟩) hbl).trans (hc k hlt).1
   have c1:wr.cell? ⟨b,off+k*2+1,none⟩=some (.int .i64 (hi l k)):=(hb.cell (p:=⟨b,off+k*2+1,none⟩) hbl).trans (hc k hlt).2
   have hd0:=drop_sp hlt
   obtain⟨u,hu⟩:∃ u,lo l k=u:=⟨_,rfl⟩
   obtain⟨v,hv⟩:∃ v,hi l k=v:=⟨_,rfl⟩
   rw[hu] at c0 hd0
   rw[hv] at c1 hd0
   have hd:Hid _:=hd0
   have E:=fun w=>eqPfx x y u v w
   clear hc hq hd0 hu hv
   obtain⟨s,hs⟩:∃ s,Bur.sm (x,y) (u,v)=s:=⟨_,rfl⟩
   rw[hs] at E
   cases s
   ·have R2:Hid (idx (fun s=>Bur.sm (x,y) s) 0 l=idx (fun s=>Bur.sm (x,y) s) ((k+1:Nat):Int) (l.drop (k+1))):=by
     show _=_
     rw[R.out,hd.out,idx,if_neg (by rw[hs];simp)]
     rfl
    clear R hd hs
    go_wp2
    go_quiet (fail)
    go_wp2
    exact⟨⟨k+1,by omega,by go_num,R2,below_drewN hb _,⟨p0,p1,p2⟩⟩,by simp[intOf];omega⟩
   ·have R2:Hid (idx (fun s=>Bur.sm (x,y) s) 0 l=(k:Int)):=by
     show _=_
     rw[R.out,hd.out,idx,if_pos hs]
    clear R hd hs
    go_wp2
    go_quiet (fail)
    go_wp2
    go_ret
    exact⟨by rw[R2.out];rfl,below_drewN hb _⟩
  ·have R2:Hid (idx (fun s=>Bur.sm (x,y) s) 0 l = -1):=by
    show _=_
    rw[R.out,List.drop_eq_nil_of_le (by omega)]
    rfl
   clear R hq pbw
   go_wp2
   go_ret
   exact⟨by rw[R2.out];rfl,hb⟩
theorem containsP (p:Bur.Sp) (q:Option Addr) (cap:Nat) (l:List Bur.Sp) (w:World) (hz:l.length<=1000000) (hq:SpAt w q l) :
  Calls Tryz.prog 262 #[.slice q l.length cap,pfx p.1 p.2] w fun e w'=>e=.returned (.bool (Bur.hasP p l))/\Below w.heap.size w w':=by
 obtain⟨x,y⟩:=p
 have E:Hid (decide (0<=idx (fun s=>Bur.sm (x,y) s) 0 l)=Bur.hasP (x,y) l):=by
  show _=_
  rw[idx_any _ l 0 (by omega)]
  unfold Bur.hasP
  congr 1
  funext s
  exact Bur.sm_comm _ _
 go_enter Tryz.func262,Tryz.ntmps262
 go_wp2_with fail
 refine (indexP (x,y) q cap l _ hz (hq.alloc _)).mono ?_
 rintro e w1 ⟨rfl,hb1⟩
 have hb2:=below_via (below_al (below_self w) _) hb1
 obtain⟨n,hn⟩:∃ n,idx (fun s=>Bur.sm (x,y) s) 0 l=n:=⟨_,rfl⟩
 rw[hn] at E ⊢
 clear hb1 hn
 go_wp2
 go_ret
 exact⟨by rw[<- E.out];rfl,hb2⟩
end Go.Proofs.YtcjdoeclblhaeaaGreatDoor.Ta
