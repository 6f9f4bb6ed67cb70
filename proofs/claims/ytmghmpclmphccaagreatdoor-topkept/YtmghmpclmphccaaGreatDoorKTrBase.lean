/- -/
import Derived.Test.YtmghmpclmphccaaGreatDoorKAdBase
import Derived.Test.YtmghmpclmphccaaGreatDoorKCvMath
import Derived.Deep.AppendLies
import Derived.OneCell
import Derived.Test.YtmghmpclmphccaaGreatDoorKSpWalkA
set_option maxHeartbeats 4000000
set_option maxRecDepth 100000
namespace Go.Proofs.YtmghmpclmphccaaGreatDoor.Ta
open Go.RowKit
abbrev lo (l:List Bur.Sp) (i:Nat):Int:=(l.getD i (0,0)).1
abbrev hi (l:List Bur.Sp) (i:Nat):Int:=(l.getD i (0,0)).2
def SpC (w:World) (b off:Nat) (l:List Bur.Sp):Prop:=
 ∀ i,i<l.length->w.cell? ⟨b,off+i*2,none⟩=some (.int .i64 (lo l i))/\w.cell? ⟨b,off+i*2+1,none⟩=some (.int .i64 (hi l i))
def SpAt (w:World) (p:Option Addr) (l:List Bur.Sp):Prop:=
 0<l.length -> ∃ b off,p=some ⟨b,off,none⟩/\b<w.heap.size/\SpC w b off l
theorem SpAt.step {w w':World} {p:Option Addr} {l:List Bur.Sp} (h:SpAt w p l) (hb:Below w.heap.size w w'):SpAt w' p l:=by
 intro hl
 obtain⟨b,off,rfl,hlt,hc⟩:=h hl
 refine⟨b,off,rfl,Nat.lt_of_lt_of_le hlt hb.size,fun i hi=>?_⟩
 rw[hb.cell (p:=⟨b,off+i*2,none⟩) hlt,hb.cell (p:=⟨b,off+i*2+1,none⟩) hlt]
 exact hc i hi
theorem SpAt.alloc {w:World} {p:Option Addr} {l:List Bur.Sp} (h:SpAt w p l) (o:Obj):SpAt (w.alloc o) p l:=h.step (below_al (below_self _) _)
theorem SpAt.nil (w:World) (p:Option Addr):SpAt w p []:=fun h=>by simp at h
theorem drop_sp {l:List Bur.Sp} {k:Nat} (h:k<l.length):l.drop k=(lo l k,hi l k) :: l.drop (k+1):=by
 rw[List.drop_eq_getElem_cons h]
 simp only [lo,hi,List.getD,List.getElem?_eq_getElem h,Option.getD_some]
theorem own_below {w w':World} {B e size n:Nat} {v:Value} {xs:List Value} (h:w.ownsRow B e size v n xs) (hb:Below w.heap.size w w'):w'.ownsRow B e size v n xs:=by
 refine⟨h.1,?_⟩
 rcases h.2 with hn|⟨g,cap,cur,rfl,h1,hg,rest⟩
 ·exact .inl hn
 ·exact .inr ⟨g,cap,cur,rfl,h1,(hb.block g (Array.getElem?_eq_some_iff.1 hg).1).trans hg,rest⟩
def spV (l:List Bur.Sp):List Value:=l.flatMap fun s=>[.int .i64 s.1,.int .i64 s.2]
theorem spV_len:∀ l:List Bur.Sp,(spV l).length=l.length*2
 | []=>rfl
 | s :: r=>by show ((spV r).length+1+1)=_;rw[spV_len r,List.length_cons];omega
theorem spV_app (l m:List Bur.Sp):spV (l++m)=spV l++spV m:=by simp[spV]
theorem spV_at:∀ (l:List Bur.Sp) (i:Nat),i<l.length->(spV l)[i*2]? = some (.int .i64 (lo l i))/\(spV l)[i*2+1]? = some (.int .i64 (hi l i))
 | s :: r,0,_=>⟨rfl,rfl⟩
 | s :: r,i+1,h=>by
  have:=spV_at r i (by simpa using h)
  rw[show (i+1)*2=i*2+2 from by omega,show i*2+2+1=i*2+1+2 from by omega]
  exact this
theorem spAt_own {w:World} {B n cap:Nat} {p:Option Addr} {l:List Bur.Sp} (h:w.ownsRow B 31 2 (.slice p n cap) l.length (spV l)):n=l.length/\SpAt w p l:=by
 rcases h.2 with ⟨h0,h1⟩|⟨g,cap',cur,h0,_,hg,_,_,_,_⟩
 ·cases h0;exact⟨h1.symm,fun hp=>by omega⟩
 ·cases h0
  refine⟨rfl,fun _=>⟨g,0,rfl,(Array.getElem?_eq_some_iff.1 hg).1,fun i hi=>?_⟩⟩
  have:=spV_at l i hi
  rw[Nat.zero_add,h.cellAt (i*2) (by omega),h.cellAt (i*2+1) (by omega)]
  exact this
end Go.Proofs.YtmghmpclmphccaaGreatDoor.Ta
namespace Go.Proofs.YtmghmpclmphccaaGreatDoor.Ta
open Go.RowKit
theorem isNaN (a:Int) (w:World):Calls Tryz.prog 171 #[.int .i64 a] w fun e w'=>e=.returned (.bool false)/\w'=w:=by
 have h:(a != a)=false:=by simp
 go_enter Tryz.func171,Tryz.ntmps171
 go_wp2
 go_ret
 exact⟨rfl,rfl⟩
theorem compare (a b:Int) (w:World):Calls Tryz.prog 125 #[.int .i64 a,.int .i64 b] w fun e w'=>e=.returned (.int .i64 (Bur.cmI a b))/\w'=w:=by
 by_cases h1:a<b
 ·rw[show Bur.cmI a b = -1 from if_pos h1]
  go_enter Tryz.func125,Tryz.ntmps125
  go_wp2_with (go_at_call 171;refine (isNaN _ _).mono ?_;rintro e w1 ⟨rfl,rfl⟩)
  go_ret
  exact⟨rfl,rfl⟩
 ·by_cases h2:b<a
  ·rw[show Bur.cmI a b=1 from (if_neg h1).trans (if_pos h2)]
   go_enter Tryz.func125,Tryz.ntmps125
   go_wp2_with (go_at_call 171;refine (isNaN _ _).mono ?_;rintro e w1 ⟨rfl,rfl⟩)
   go_ret
   exact⟨rfl,rfl⟩
  ·rw[show Bur.cmI a b=0 from (if_neg h1).trans (if_neg h2)]
   go_enter Tryz.func125,Tryz.ntmps125
   go_wp2_with (go_at_call 171;refine (isNaN _ _).mono ?_;rintro e w1 ⟨rfl,rfl⟩)
   go_ret
   exact⟨rfl,rfl⟩
theorem or2 (b:Nat) (x y:Int) (w:World) (c0:w.cell? ⟨b,0,none⟩=some (.int .i64 x)) (c1:w.cell? ⟨b,1,none⟩=some (.int .i64 y)):Calls Tryz.prog 124 #[.slice (some ⟨b,0,none⟩) 2 2] w fun e w'=>e=.returned (.int .i64 (Bur.orI x y))/\w'=w:=by
 go_enter Tryz.func124,Tryz.ntmps124
 go_wp2
 go_loopw [8] (fun i wr=>∃ k:Nat,k<=2/\i=.int .i64 k/\wr=w/\Hid (0<k->x=0)/\Hid (1<k->y=0)) (fun i _=>2 - (intOf i).toNat)
 case atStart=>exact⟨0,by omega,rfl,rfl,fun h=>by omega,fun h=>by omega⟩
 case round=>
  obtain⟨k,hk,rfl,rfl,h0,h1⟩:=hrel
  match k,hk,h0,h1 with
  | 0,_,_,_=>
   cases hx:(x != 0)
   ·go_wp2
    exact⟨⟨1,by omega,(by first|rfl|trivial|go_num),(by first|rfl|trivial),fun _=>by simpa using hx,fun h=>by omega⟩,by simp[intOf]⟩
   ·go_wp2
    go_ret
    exact⟨by rw[Bur.orI_ne (by simpa using hx)];rfl,rfl⟩
  | 1,_,h0,_=>
   have hx:x=0:=h0.out (by omega)
   cases hy:(y != 0)
   ·go_wp2
    exact⟨⟨2,by omega,(by first|rfl|trivial|go_num),(by first|rfl|trivial),fun _=>hx,fun _=>by simpa using hy⟩,by simp[intOf]⟩
   ·go_wp2
    go_ret
    exact⟨by rw[hx,Bur.orI_0];rfl,rfl⟩
  | 2,_,h0,h1=>
   have hx:x=0:=h0.out (by omega)
   have hy:y=0:=h1.out (by omega)
   subst hx hy
   go_wp2
   go_ret
   exact⟨rfl,rfl⟩
theorem order (p q:Bur.Sp) (w:World):Calls Tryz.prog 72 #[pfx p.1 p.2,pfx q.1 q.2] w fun e w'=>e=.returned (.int .i64 (Bur.ordP p q))/\Below w.heap.size w w':=by
 obtain⟨a,l⟩:=p
 obtain⟨a2,l2⟩:=q
 go_enter Tryz.func72,Tryz.ntmps72
 go_wp2
 go_region_held3 (fun wy=>wy.cell? ⟨w.heap.size,0,none⟩=some (.int .i64 a)/\wy.cell? ⟨w.heap.size,1,none⟩=some (.int .i64 l)/\wy.cell? ⟨w.heap.size+1,0,none⟩=some (.int .i64 a2)/\wy.cell? ⟨w.heap.size+1,1,none⟩=some (.int .i64 l2)) (go_simp)
  (first
   | (go_at_call 125;refine (compare _ _ _).mono ?_;rintro e w1 ⟨rfl,rfl⟩)
   | (go_at_call 124;refine (or2 _ (Bur.cmI a a2) (Bur.cmI l l2) _ (by go_simp) (by go_simp)).mono ?_;rintro e w1 ⟨rfl,rfl⟩))
 go_wp2
 go_ret
 exact⟨rfl,(below_al (below_al (below_al (below_self _) _) _) _).drew⟩
end Go.Proofs.YtmghmpclmphccaaGreatDoor.Ta
namespace Go.Proofs.YtmghmpclmphccaaGreatDoor.Ta
open Go.RowKit
theorem eqGuard_pfx:Tryz.prog.eqGuardType Tryz.prog.depth 31=false:=by kernel_rfl
theorem eqPfx (a l a2 l2:Int) (w:World):(Op.equalIn 10000 31 (pfx a l) (pfx a2 l2)).run Tryz.prog w=.ok (Bur.sm (a,l) (a2,l2)) w:=by
 have u3:=Tryz.underlying3
 have a3:=Tryz.isAgg3
 have z3:=Tryz.sizeOf3
 have hS:Tryz.prog.underlying 31=some (.struct (Tryz.prog.fieldsOf 31)):=by kernel_rfl
 have hp:Tryz.prog.stoodInHeld 31=false:=by kernel_rfl
 rw[show (10000:Nat)=9999+1 from rfl,run_equalIn_agg w 9999 31 _ _ hS hp]
 simp only [Program.fieldsOf,Tryz.underlying31]
 go_simp
 unfold Bur.sm
 by_cases h1:a=a2 <;> by_cases h2:l=l2 <;> simp[h1,h2]
end Go.Proofs.YtmghmpclmphccaaGreatDoor.Ta
namespace Go.Proofs.YtmghmpclmphccaaGreatDoor.Sa
open Go.RowKit
theorem checkLen (a z n:Int) (w:World):Calls Tryz.prog 235 #[pfx a z,.int .i64 n] w fun e w'=>e=.returned (ev (Bur.lnF (a,z) n))/\Below w.heap.size w w':=by
 by_cases h:n<z
 ·have E:Hid (Bur.lnF (a,z) n=1):=if_pos (.inl h)
  go_enter Tryz.func235,Tryz.ntmps235
  go_wp2
  go_ret
  exact⟨by rw[E.out];rfl,below_al (below_self _) _⟩
 ·by_cases h2:32<n
  ·have E:Hid (Bur.lnF (a,z) n=1):=if_pos (.inr h2)
   go_enter Tryz.func235,Tryz.ntmps235
   go_wp2
   go_ret
   exact⟨by rw[E.out];rfl,below_al (below_self _) _⟩
  ·have E:Hid (Bur.lnF (a,z) n=0):=if_neg (by show ¬ (n<z \/ 32<n);omega)
   go_enter Tryz.func235,Tryz.ntmps235
   go_wp2
   go_ret
   exact⟨by rw[E.out];rfl,below_al (below_self _) _⟩
theorem fit (lo hi n:Int) (w:World) (h0:0<=lo) (h1:lo<=hi) (h2:hi<=4294967295) (n0:0<=n) (n1:n<=32) :
  Calls Tryz.prog 201 #[pfx lo hi,.int .i64 n] w fun e w'=>e=.returned (.tuple #[.int .i64 (Bur.upn (Bur.sz n) lo),.int .i64 (Bur.plc (Bur.sz n) (lo,hi))])/\Below w.heap.size w w':=by
 have hz:=Bur.sz_pos n
 have hz2:=Bur.sz_le32 n0
 have e0:wrap64 (2 ^ (32 - n).toNat)=Bur.sz n:=by
  unfold Bur.sz at *
  exact IntWalk.wrap64_in _ (by omega)
 have F1:wrap64 (wrap64 (lo+Bur.sz n) - 1)=lo+Bur.sz n - 1:=by rw[IntWalk.wrap64_in (lo+Bur.sz n) (by omega),IntWalk.wrap64_in _ (by omega)]
 have q1:0<=(lo+Bur.sz n - 1) / Bur.sz n:=Int.ediv_nonneg (by omega) (by omega)
 have q2:(lo+Bur.sz n - 1) / Bur.sz n<=lo+Bur.sz n - 1:=Int.ediv_le_self _ (by omega)
 have q3:0<=(hi+1) / Bur.sz n:=Int.ediv_nonneg (by omega) (by omega)
 have q4:(hi+1) / Bur.sz n<=hi+1:=Int.ediv_le_self _ (by omega)
 obtain⟨u1,u2,u3⟩:=Bur.upn_spec hz lo
 have F2:wrap64 ((lo+Bur.sz n - 1).tdiv (Bur.sz n))=(lo+Bur.sz n - 1) / Bur.sz n:=by rw[Int.tdiv_eq_ediv_of_nonneg (by omega),IntWalk.wrap64_in _ (by omega)]
 have F3:wrap64 ((hi+1).tdiv (Bur.sz n))=(hi+1) / Bur.sz n:=by rw[Int.tdiv_eq_ediv_of_nonneg (by omega),IntWalk.wrap64_in _ (by omega)]
 have F4:wrap64 ((lo+Bur.sz n - 1) / Bur.sz n*Bur.sz n)=Bur.upn (Bur.sz n) lo:=IntWalk.wrap64_in (Bur.upn (Bur.sz n) lo) (by omega)
 have F5:wrap64 ((hi+1) / Bur.sz n - (lo+Bur.sz n - 1) / Bur.sz n)=(hi+1) / Bur.sz n - (lo+Bur.sz n - 1) / Bur.sz n:=IntWalk.wrap64_in _ (by omega)
 have P:Hid ((Bur.plc (Bur.sz n) (lo,hi):Int)=max 0 ((hi+1) / Bur.sz n - (lo+Bur.sz n - 1) / Bur.sz n)):=Bur.plc_eq hz (lo,hi)
 go_enter Tryz.func201,Tryz.ntmps201
 go_wp2
 all_goals simp only [e0,F1,F2,F3,F4,F5] at *
 all_goals
  go_ret2
  refine⟨?_,below_al (below_self _) _⟩
  rw[P.out]
  first|rw[Int.max_eq_right (by omega)]|rw[Int.max_eq_left (by omega)]
  rfl
end Go.Proofs.YtmghmpclmphccaaGreatDoor.Sa
