/- -/
import Derived.Test.YtmghmpclmphccaaGreatDoorTAdBase
import Derived.Test.YtmghmpclmphccaaGreatDoorTCvMath
import Derived.Deep.AppendLies
import Derived.OneCell
import Derived.Maps.OwnSet
import Derived.WalkArith
import Derived.Test.YtmghmpclmphccaaGreatDoorTSpWalkA
set_option maxHeartbeats 4000000
set_option maxRecDepth 100000
namespace Go.Proofs.YtmghmpclmphccaaGreatDoor.Ta
open Go.RowKit
abbrev lo (l:List Bur.Sp) (i:Nat):Int:=(l.getD i (0,0)).1
abbrev hi (l:List Bur.Sp) (i:Nat):Int:=(l.getD i (0,0)).2
def SpC (w:World) (b off:Nat) (l:List Bur.Sp):Prop:=
 ∀ i,i<l.length->w.cell? ⟨b,off+i*2,none⟩=some (.int .i64 (lo l i))/\w.cell? ⟨b,off+i*2+1,none⟩=some (.int .i64 (hi l i))
def SpAt (w:World) (p:Option Addr) (l:List Bur.Sp):Prop:=
 0<l.length -> ∃ b off,p=some ⟨b,off,none⟩/\b<w.heap.size/\SpC w b off l
theorem SpAt.step {w w':World} {p:Option Addr} {l:List Bur.Sp} (h:SpAt w p l) (hb:Below w.heap.size w w'):SpAt w' p l:=by
 intro hl
 obtain⟨b,off,rfl,hlt,hc⟩:=h hl
 refine⟨b,off,rfl,Nat.lt_of_lt_of_le hlt hb.size,fun i hi=>?_⟩
 rw[hb.cell (p:=⟨b,off+i*2,none⟩) hlt,hb.cell (p:=⟨b,off+i*2+1,none⟩) hlt]
 exact hc i hi
theorem SpAt.alloc {w:World} {p:Option Addr} {l:List Bur.Sp} (h:SpAt w p l) (o:Obj):SpAt (w.alloc o) p l:=h.step (below_al (below_self _) _)
theorem SpAt.nil (w:World) (p:Option Addr):SpAt w p []:=fun h=>by simp at h
theorem drop_sp {l:List Bur.Sp} {k:Nat} (h:k<l.length):l.drop k=(lo l k,hi l k) :: l.drop (k+1):=by
 rw[List.drop_eq_getElem_cons h]
 simp only [lo,hi,List.getD,List.getElem?_eq_getElem h,Option.getD_some]
theorem own_below {w w':World} {B e size n:Nat} {v:Value} {xs:List Value} (h:w.ownsRow B e size v n xs) (hb:Below w.heap.size w w'):w'.ownsRow B e size v n xs:=by
 refine⟨h.1,?_⟩
 rcases h.2 with hn|⟨g,cap,cur,rfl,h1,hg,rest⟩
 ·exact .inl hn
 ·exact .inr ⟨g,cap,cur,rfl,h1,(hb.block g (Array.getElem?_eq_some_iff.1 hg).1).trans hg,rest⟩
def spV (l:List Bur.Sp):List Value:=l.flatMap fun s=>[.int .i64 s.1,.int .i64 s.2]
theorem spV_len:∀ l:List Bur.Sp,(spV l).length=l.length*2
 | []=>rfl
 | s :: r=>by show ((spV r).length+1+1)=_;rw[spV_len r,List.length_cons];omega
theorem spV_app (l m:List Bur.Sp):spV (l++m)=spV l++spV m:=by simp[spV]
theorem spV_at:∀ (l:List Bur.Sp) (i:Nat),i<l.length->(spV l)[i*2]? = some (.int .i64 (lo l i))/\(spV l)[i*2+1]? = some (.int .i64 (hi l i))
 | s :: r,0,_=>⟨rfl,rfl⟩
 | s :: r,i+1,h=>by
  have:=spV_at r i (by simpa using h)
  rw[show (i+1)*2=i*2+2 from by omega,show i*2+2+1=i*2+1+2 from by omega]
  exact this
theorem spAt_own {w:World} {B n cap:Nat} {p:Option Addr} {l:List Bur.Sp} (h:w.ownsRow B 31 2 (.slice p n cap) l.length (spV l)):n=l.length/\SpAt w p l:=by
 rcases h.2 with ⟨h0,h1⟩|⟨g,cap',cur,h0,_,hg,_,_,_,_⟩
 ·cases h0;exact⟨h1.symm,fun hp=>by omega⟩
 ·cases h0
  refine⟨rfl,fun _=>⟨g,0,rfl,(Array.getElem?_eq_some_iff.1 hg).1,fun i hi=>?_⟩⟩
  have:=spV_at l i hi
  rw[Nat.zero_add,h.cellAt (i*2) (by omega),h.cellAt (i*2+1) (by omega)]
  exact this
end Go.Proofs.YtmghmpclmphccaaGreatDoor.Ta
namespace Go.Proofs.YtmghmpclmphccaaGreatDoor.Ta
open Go.RowKit
theorem isNaN (a:Int) (w:World):Calls Tryz.prog 171 #[.int .i64 a] w fun e w'=>e=.returned (.bool false)/\w'=w:=by
 have h:(a != a)=false:=by simp
 go_enter Tryz.func171,Tryz.ntmps171
 go_wp2
 go_ret
 exact⟨rfl,rfl⟩
theorem compare (a b:Int) (w:World):Calls Tryz.prog 125 #[.int .i64 a,.int .i64 b] w fun e w'=>e=.returned (.int .i64 (Bur.cmI a b))/\w'=w:=by
 by_cases h1:a<b
 ·rw[show Bur.cmI a b = -1 from if_pos h1]
  go_enter Tryz.func125,Tryz.ntmps125
  go_wp2_with (go_at_call 171;refine (isNaN _ _).mono ?_;rintro e w1 ⟨rfl,rfl⟩)
  go_ret
  exact⟨rfl,rfl⟩
 ·by_cases h2:b<a
  ·rw[show Bur.cmI a b=1 from (if_neg h1).trans (if_pos h2)]
   go_enter Tryz.func125,Tryz.ntmps125
   go_wp2_with (go_at_call 171;refine (isNaN _ _).mono ?_;rintro e w1 ⟨rfl,rfl⟩)
   go_ret
   exact⟨rfl,rfl⟩
  ·rw[show Bur.cmI a b=0 from (if_neg h1).trans (if_neg h2)]
   go_enter Tryz.func125,Tryz.ntmps125
   go_wp2_with (go_at_call 171;refine (isNaN _ _).mono ?_;rintro e w1 ⟨rfl,rfl⟩)
   go_ret
   exact⟨rfl,rfl⟩
theorem or2 (b:Nat) (x y:Int) (w:World) (c0:w.cell? ⟨b,0,none⟩=some (.int .i64 x)) (c1:w.cell? ⟨b,1,none⟩=some (.int .i64 y)):Calls Tryz.prog 124 #[.slice (some ⟨b,0,none⟩) 2 2] w fun e w'=>e=.returned (.int .i64 (Bur.orI x y))/\w'=w:=by
 go_enter Tryz.func124,Tryz.ntmps124
 go_wp2
 go_loopw [8] (fun i wr=>∃ k:Nat,k<=2/\i=.int .i64 k/\wr=w/\Hid (0<k->x=0)/\Hid (1<k->y=0)) (fun i _=>2 - (intOf i).toNat)
 case atStart=>exact⟨0,by omega,rfl,rfl,fun h=>by omega,fun h=>by omega⟩
 case round=>
  obtain⟨k,hk,rfl,rfl,h0,h1⟩:=hrel
  match k,hk,h0,h1 with
  | 0,_,_,_=>
   cases hx:(x != 0)
   ·go_wp2
    exact⟨⟨1,by omega,(by first|rfl|trivial|go_num),(by first|rfl|trivial),fun _=>by simpa using hx,fun h=>by omega⟩,by simp[intOf]⟩
   ·go_wp2
    go_ret
    exact⟨by rw[Bur.orI_ne (by simpa using hx)];rfl,rfl⟩
  | 1,_,h0,_=>
   have hx:x=0:=h0.out (by omega)
   cases hy:(y != 0)
   ·go_wp2
    exact⟨⟨2,by omega,(by first|rfl|trivial|go_num),(by first|rfl|trivial),fun _=>hx,fun _=>by simpa using hy⟩,by simp[intOf]⟩
   ·go_wp2
    go_ret
    exact⟨by rw[hx,Bur.orI_0];rfl,rfl⟩
  | 2,_,h0,h1=>
   have hx:x=0:=h0.out (by omega)
   have hy:y=0:=h1.out (by omega)
   subst hx hy
   go_wp2
   go_ret
   exact⟨rfl,rfl⟩
theorem order (p q:Bur.Sp) (w:World):Calls Tryz.prog 72 #[pfx p.1 p.2,pfx q.1 q.2] w fun e w'=>e=.returned (.int .i64 (Bur.ordP p q))/\Below w.heap.size w w':=by
 obtain⟨a,l⟩:=p
 obtain⟨a2,l2⟩:=q
 go_enter Tryz.func72,Tryz.ntmps72
 go_wp2
 go_region_held3 (fun wy=>wy.cell? ⟨w.heap.size,0,none⟩=some (.int .i64 a)/\wy.cell? ⟨w.heap.size,1,none⟩=some (.int .i64 l)/\wy.cell? ⟨w.heap.size+1,0,none⟩=some (.int .i64 a2)/\wy.cell? ⟨w.heap.size+1,1,none⟩=some (.int .i64 l2)) (go_simp)
  (first
   | (go_at_call 125;refine (compare _ _ _).mono ?_;rintro e w1 ⟨rfl,rfl⟩)
   | (go_at_call 124;refine (or2 _ (Bur.cmI a a2) (Bur.cmI l l2) _ (by go_simp) (by go_simp)).mono ?_;rintro e w1 ⟨rfl,rfl⟩))
 go_wp2
 go_ret
 exact⟨rfl,(below_al (below_al (below_al (below_self _) _) _) _).drew⟩
end Go.Proofs.YtmghmpclmphccaaGreatDoor.Ta
namespace Go.Proofs.YtmghmpclmphccaaGreatDoor.Ta
open Go.RowKit
theorem eqGuard_pfx:Tryz.prog.eqGuardType Tryz.prog.depth 31=false:=by kernel_rfl
theorem eqPfx (a l a2 l2:Int) (w:World):(Op.equalIn 10000 31 (pfx a l) (pfx a2 l2)).run Tryz.prog w=.ok (Bur.sm (a,l) (a2,l2)) w:=by
 have u3:=Tryz.underlying3
 have a3:=Tryz.isAgg3
 have z3:=Tryz.sizeOf3
 have hS:Tryz.prog.underlying 31=some (.struct (Tryz.prog.fieldsOf 31)):=by kernel_rfl
 have hp:Tryz.prog.stoodInHeld 31=false:=by kernel_rfl
 rw[show (10000:Nat)=9999+1 from rfl,run_equalIn_agg w 9999 31 _ _ hS hp]
 simp only [Program.fieldsOf,Tryz.underlying31]
 go_simp
 unfold Bur.sm
 by_cases h1:a=a2 <;> by_cases h2:l=l2 <;> simp[h1,h2]
end Go.Proofs.YtmghmpclmphccaaGreatDoor.Ta
namespace Go.Proofs.YtmghmpclmphccaaGreatDoor.Ha
open Go.RowKit
def InAt (w:World) (p:Option Addr) (zs:List Int):Prop:=
 0<zs.length -> ∃ b off,p=some ⟨b,off,none⟩/\b<w.heap.size /\ ∀ i,i<zs.length->w.cell? ⟨b,off+i,none⟩=some (.int .i64 (zs.getD i 0))
theorem InAt.step {w w':World} {p:Option Addr} {zs:List Int} (h:InAt w p zs) (hb:Below w.heap.size w w'):InAt w' p zs:=by
 intro hl
 obtain⟨b,off,rfl,hlt,hc⟩:=h hl
 refine⟨b,off,rfl,Nat.lt_of_lt_of_le hlt hb.size,fun i hi=>?_⟩
 rw[hb.cell (p:=⟨b,off+i,none⟩) hlt]
 exact hc i hi
theorem drop_int {zs:List Int} {k:Nat} (h:k<zs.length):zs.drop k=zs.getD k 0 :: zs.drop (k+1):=by
 rw[List.drop_eq_getElem_cons h]
 simp only [List.getD,List.getElem?_eq_getElem h,Option.getD_some]
theorem take_int {zs:List Int} {k:Nat} (h:k<zs.length):zs.take (k+1)=zs.take k ++ [zs.getD k 0]:=by
 rw[List.take_add_one]
 simp[List.getD,List.getElem?_eq_getElem h]
theorem usable (a l:Int) (w:World):Calls Tryz.prog 122 #[pfx a l] w fun e w'=>e=.returned (.tuple #[pfx (Bur.usS (a,l)).1 (Bur.usS (a,l)).2,ev (Bur.fault a l)])/\Below w.heap.size w w':=by
 by_cases h:Bur.fault a l=0
 ·obtain⟨h0,h1,a0,a1,hz⟩:=Bur.fault_ok h
  have hp:=Bur.sz_pos l
  have hq:=Bur.sz_le l h0
  by_cases h31:31<=l
  ·rw[show Bur.usS (a,l)=(a,a+(Bur.sz l - 1)) from by rw[Bur.usS,if_pos h,Bur.usa,if_pos (by show 30<l;omega)];show (a,a+Bur.sz l - 1)=_;rw[Int.add_sub_assoc],show ev (Bur.fault a l)=.nilIface from by rw[h,ev_0]]
   go_enter Tryz.func122,Tryz.ntmps122
   go_wp2_with (go_at_call 170;refine (ends_ok _ _ _ h).mono ?_;rintro e w' ⟨rfl,hb⟩;have c1:w'.cell? ⟨w.heap.size,1,none⟩=some (.int .i64 l):=(hb.cell (p:=⟨w.heap.size,1,none⟩) (by simp;omega)).trans (by simp);have c2:w'.frozen? ⟨w.heap.size+1,0,none⟩=false:=(hb.frozen (p:=⟨w.heap.size+1,0,none⟩) (by simp)).trans (by simp);have c3:w'.frozen? ⟨w.heap.size+1,1,none⟩=false:=(hb.frozen (p:=⟨w.heap.size+1,1,none⟩) (by simp)).trans (by simp);have c4:w'.cell? ⟨w.heap.size+1,0,none⟩=some (.int .i64 0):=(hb.cell (p:=⟨w.heap.size+1,0,none⟩) (by simp)).trans (by simp);have c5:w'.cell? ⟨w.heap.size+1,1,none⟩=some (.int .i64 0):=(hb.cell (p:=⟨w.heap.size+1,1,none⟩) (by simp)).trans (by simp);have hb2:=below_via (below_al (below_al (below_self w) _) _) hb;clear hb)
   exact bodyPost_ret (v:=.tuple #[pfx a (a+(Bur.sz l - 1)),.nilIface]) (by simp[results,Tryz.results122,go_sem,c4,c5]) rfl ⟨rfl,by repeat (first|exact hb2|refine Below.setCell ?_ (by simp) _)⟩
  ·rw[show Bur.usS (a,l)=(a+1,a+(Bur.sz l - 1) - 1) from by rw[Bur.usS,if_pos h,Bur.usa,if_neg (by show ¬ 30<l;omega)];show (a+1,a+Bur.sz l - 2)=_;rw[show a+Bur.sz l - 2=a+(Bur.sz l - 1) - 1 from by omega],show ev (Bur.fault a l)=.nilIface from by rw[h,ev_0]]
   go_enter Tryz.func122,Tryz.ntmps122
   go_wp2_with (go_at_call 170;refine (ends_ok _ _ _ h).mono ?_;rintro e w' ⟨rfl,hb⟩;have c1:w'.cell? ⟨w.heap.size,1,none⟩=some (.int .i64 l):=(hb.cell (p:=⟨w.heap.size,1,none⟩) (by simp;omega)).trans (by simp);have c2:w'.frozen? ⟨w.heap.size+1,0,none⟩=false:=(hb.frozen (p:=⟨w.heap.size+1,0,none⟩) (by simp)).trans (by simp);have c3:w'.frozen? ⟨w.heap.size+1,1,none⟩=false:=(hb.frozen (p:=⟨w.heap.size+1,1,none⟩) (by simp)).trans (by simp);have c4:w'.cell? ⟨w.heap.size+1,0,none⟩=some (.int .i64 0):=(hb.cell (p:=⟨w.heap.size+1,0,none⟩) (by simp)).trans (by simp);have c5:w'.cell? ⟨w.heap.size+1,1,none⟩=some (.int .i64 0):=(hb.cell (p:=⟨w.heap.size+1,1,none⟩) (by simp)).trans (by simp);have hb2:=below_via (below_al (below_al (below_self w) _) _) hb;clear hb)
   exact bodyPost_ret (v:=.tuple #[pfx (a+1) (a+(Bur.sz l - 1) - 1),.nilIface]) (by simp[results,Tryz.results122,go_sem,c4,c5]) rfl ⟨rfl,by repeat (first|exact hb2|refine Below.setCell ?_ (by simp) _)⟩
 ·rw[show Bur.usS (a,l)=(0,0) from if_neg h,ev_ne h]
  go_enter Tryz.func122,Tryz.ntmps122
  go_wp2_with (go_at_call 170;refine (ends_no _ _ _ h).mono ?_;rintro e w' ⟨rfl,hb⟩;have c2:w'.frozen? ⟨w.heap.size+1,0,none⟩=false:=(hb.frozen (p:=⟨w.heap.size+1,0,none⟩) (by simp)).trans (by simp);have c3:w'.frozen? ⟨w.heap.size+1,1,none⟩=false:=(hb.frozen (p:=⟨w.heap.size+1,1,none⟩) (by simp)).trans (by simp);have c4:w'.cell? ⟨w.heap.size+1,0,none⟩=some (.int .i64 0):=(hb.cell (p:=⟨w.heap.size+1,0,none⟩) (by simp)).trans (by simp);have c5:w'.cell? ⟨w.heap.size+1,1,none⟩=some (.int .i64 0):=(hb.cell (p:=⟨w.heap.size+1,1,none⟩) (by simp)).trans (by simp);have hb2:=below_via (below_al (below_al (below_self w) _) _) hb;clear hb)
  exact bodyPost_ret (v:=.tuple #[pfx 0 0,errN (Bur.fault a l)]) (by simp[results,Tryz.results122,go_sem,c4,c5]) rfl ⟨rfl,by repeat (first|exact hb2|refine Below.setCell ?_ (by simp) _)⟩
theorem checkUsed (u:List Int) (p:Option Addr) (cap:Nat) (w:World) (hl:u.length<=9223372036854775807) (hu:InAt w p u) :
  Calls Tryz.prog 123 #[.slice p u.length cap] w fun e w'=>e=.returned (ev (if 200<u.length then 3 else Bur.adF u))/\Below w.heap.size w w':=by
 by_cases h200:200<u.length
 ·rw[if_pos h200]
  go_enter Tryz.func123,Tryz.ntmps123
  go_wp2
  go_ret
  exact⟨rfl,below_self _⟩
 rw[if_neg h200]
 go_enter Tryz.func123,Tryz.ntmps123
 go_wp2
 go_loopw [11] (fun i wr=>∃ k:Nat,k<=u.length/\i=.int .i64 k/\Hid (Bur.adF u=Bur.adF (u.drop k))/\Below w.heap.size w wr) (fun i _=>u.length - (intOf i).toNat)
 case atStart=>exact⟨0,by omega,rfl,rfl,below_self _⟩
 case round=>
  obtain⟨k,hk,rfl,R,hb⟩:=hrel
  by_cases hlt:k<u.length
  ·have hlt':(k:Int)<(u.length:Int):=by omega
   obtain⟨b,off,rfl,hbl,hc⟩:=hu (by omega)
   have c0:wr.cell? ⟨b,off+k,none⟩=some (.int .i64 (u.getD k 0)):=(hb.cell (p:=⟨b,off+k,none⟩) hbl).trans (hc k hlt)
   obtain⟨z,hz⟩:∃ z,z=u.getD k 0:=⟨_,rfl⟩
   rw[<- hz] at c0
   have D:Hid (Bur.adF u=if Bur.isA z=true then Bur.adF (u.drop (k+1)) else 1):=by
    show _=_
    rw[R.out,drop_int hlt,<- hz];rfl
   clear hz hc hu R
   cases hA:Bur.isA z
   ·go_wp2_with (go_at_call 66;refine (isAddress _ _).mono ?_;rintro e w' ⟨rfl,hw⟩;have:=hw.symm;subst this)
    go_ret
    exact⟨by rw[D.out,hA];rfl,hb⟩
   ·go_wp2_with (go_at_call 66;refine (isAddress _ _).mono ?_;rintro e w' ⟨rfl,hw⟩;have:=hw.symm;subst this)
    exact⟨⟨k+1,by omega,by go_num,by show _=_;rw[D.out,if_pos hA],hb⟩,by simp[intOf];omega⟩
  ·have hd:u.drop k=[]:=List.drop_eq_nil_of_le (by omega)
   go_wp2
   go_ret
   exact⟨by rw[R.out,hd];rfl,hb⟩
end Go.Proofs.YtmghmpclmphccaaGreatDoor.Ha
namespace Go.Proofs.YtmghmpclmphccaaGreatDoor.Ha
open Go.RowKit Go.Maps
def tkD (lo hi:Int) (u:List Int):DataW Unit:=Maps.setOf (.agg []) ((Bur.tk lo hi u).map (Lit.int .i64))
theorem any_key (x:Int):∀ l:List Int,(l.map (Lit.int .i64)).any (fun y=>y.sameKey (.int .i64 x))=decide (x∈l)
 | []=>rfl
 | a :: r=>by
  rw[List.map_cons,List.any_cons,any_key x r]
  show (decide (IntKind.i64=IntKind.i64/\a=x) || decide (x∈r))=_
  by_cases e:a=x
  ·subst e;simp
  ·have e':¬ x=a:=fun h=>e h.symm
   simp[e,e']
theorem lits_key (l:List Int):∀ x∈l.map (Lit.int .i64),WideAt.IsKeyLit x:=fun x hx=>by obtain⟨_,_,rfl⟩:=List.mem_map.1 hx;trivial
theorem has_tk (lo hi x:Int) (u:List Int):Maps.has (tkD lo hi u) (.int .i64 x)=decide (x∈Bur.tk lo hi u):=by
 unfold tkD
 rw[has_setOf _ _ _ (lits_key _)]
 exact any_key x _
theorem tkD_nil (lo hi:Int):tkD lo hi []=.map []:=rfl
theorem tkD_in {lo hi x:Int} (h1:lo<=x) (h2:x<=hi) (u:List Int):tkD lo hi (u ++ [x])=(tkD lo hi u).put (.int .i64 x) (.agg []):=by
 unfold tkD
 rw[Bur.tk_snoc,if_pos ⟨h1,h2⟩,List.map_append,List.map_singleton,setOf_snoc]
theorem tkD_out {lo hi x:Int} (h:¬ (lo<=x/\x<=hi)) (u:List Int):tkD lo hi (u ++ [x])=tkD lo hi u:=by
 unfold tkD
 rw[Bur.tk_snoc,if_neg h]
theorem map_below {w w':World} {k b n:Nat} {R:Value->Option (DataW Unit×List MemPlace)} {D:DataW Unit} (h:w.ownsMap Tryz.prog k R b n D) (hb:Below w.heap.size w w'):w'.ownsMap Tryz.prog k R b n D:=by
 obtain⟨es,clock,h1,r⟩:=h
 exact⟨es,clock,(hb.block b (Array.getElem?_eq_some_iff.1 h1).1).trans h1,r⟩
theorem keyInt:Keyed Tryz.prog 3:=int_keyed Tryz.underlying3
theorem zeroUnit (w:World):(zeroValue 145).run Tryz.prog w=.ok (.agg #[]) w:=by kernel_rfl
theorem key_adr {x:Int} (h:Bur.isA x=true):keyOf Tryz.prog 3 (.int .i64 x)=some (.int .i64 x):=keyOf_int_mk Tryz.underlying3 (by have:=Bur.isA_true h;exact WalkArith.wf_i64 (by omega))
theorem taken_no (a l:Int) (u:List Int) (p:Option Addr) (cap:Nat) (w:World) (hl:u.length<=9223372036854775807) (hu:InAt w p u) (h:Bur.usF (a,l) u≠0) :
  Calls Tryz.prog 71 #[pfx a l,.slice p u.length cap] w fun e w'=>e=.returned (.tuple #[pfx 0 0,.map none,errN (Bur.usF (a,l) u)])/\Below w.heap.size w w':=by
 have hbA:Below w.heap.size w ((w.alloc (.cells #[.int .i64 a,.int .i64 l] 31)).alloc (.cells #[.int .i64 0,.int .i64 0] 150)):=below_al (below_al (below_self w) _) _
 have bx0:=Bx.new (w.alloc (.cells #[.int .i64 a,.int .i64 l] 31)) 150 0 0
 rw[World.size_alloc] at bx0
 by_cases hf:Bur.fault a l=0
 ·have E:Bur.usF (a,l) u=if 200<u.length then 3 else Bur.adF u:=if_pos hf
  have H:Hid (ev (if 200<u.length then 3 else Bur.adF u)=errN (Bur.usF (a,l) u)):=by show _=_;rw[<- E];exact ev_ne h
  have H0:Hid (ev (Bur.fault a l)=.nilIface):=by show _=_;rw[hf];rfl
  clear E hf
  go_enter Tryz.func71,Tryz.ntmps71
  go_wp2_with fail
  refine (usable _ _ _).mono ?_
  rintro e w1 ⟨rfl,hb1⟩
  have bx1:=bx0.step hb1
  replace hb1:=below_via hbA hb1
  have hu1:=hu.step hb1
  have bx2:=fun o=>bx1.step (below_al (below_self w1) o)
  have hb2:=fun o=>below_al hb1 o
  have hu2:=fun o=>hu1.step (below_al (below_self w1) o)
  rw[H0.out]
  clear hu hbA bx0 bx1 hb1 hu1 H0
  go_wp2_with fail
  refine (checkUsed u p cap _ hl (hu2 _)).mono ?_
  rintro e w2 ⟨rfl,hb3⟩
  obtain⟨c0,c1,f0,f1⟩:=(bx2 _).step hb3
  have hb4:=below_via (hb2 _) hb3
  rw[H.out]
  clear bx2 hb2 hu2 hb3 H h
  go_wp2
  exact bodyPost_ret (v:=.tuple #[pfx 0 0,.map none,errN (Bur.usF (a,l) u)]) (by simp[results,Tryz.results71,go_sem,c0,c1]) rfl ⟨rfl,by repeat (first|exact hb4|refine Below.setCell ?_ (by simp) _)⟩
 ·have E:Bur.usF (a,l) u=Bur.fault a l:=if_neg hf
  have H0:Hid (ev (Bur.fault a l)=errN (Bur.fault a l)):=ev_ne hf
  rw[E]
  clear E hf h
  go_enter Tryz.func71,Tryz.ntmps71
  go_wp2_with fail
  refine (usable _ _ _).mono ?_
  rintro e w1 ⟨rfl,hb1⟩
  have bx1:=bx0.step hb1
  replace hb1:=below_via hbA hb1
  rw[H0.out]
  obtain⟨c0,c1,f0,f1⟩:=bx1.step (below_al (below_self w1) (.cells #[.int .i64 (Bur.usS (a,l)).1,.int .i64 (Bur.usS (a,l)).2] 150))
  have hb2:=below_al hb1 (.cells #[.int .i64 (Bur.usS (a,l)).1,.int .i64 (Bur.usS (a,l)).2] 150)
  clear hu hbA bx0 bx1 hb1 H0
  go_wp2
  exact bodyPost_ret (v:=.tuple #[pfx 0 0,.map none,errN (Bur.fault a l)]) (by simp[results,Tryz.results71,go_sem,c0,c1]) rfl ⟨rfl,by repeat (first|exact hb2|refine Below.setCell ?_ (by simp) _)⟩
theorem taken_ok (a l:Int) (u:List Int) (p:Option Addr) (cap:Nat) (w:World) (hu:InAt w p u) (h:Bur.usF (a,l) u=0) :
  Calls Tryz.prog 71 #[pfx a l,.slice p u.length cap] w fun e w'=>∃ B,w.heap.size<=B/\e=.returned (.tuple #[pfx (Bur.usa (a,l)).1 (Bur.usa (a,l)).2,.map (some B),.nilIface])/\w'.ownsMap Tryz.prog 3 unitElem B u.length (tkD (Bur.usa (a,l)).1 (Bur.usa (a,l)).2 u)/\Below w.heap.size w w':=by
 have hmm:=@run_makeMap Tryz.prog
 have hbA:Below w.heap.size w ((w.alloc (.cells #[.int .i64 a,.int .i64 l] 31)).alloc (.cells #[.int .i64 0,.int .i64 0] 150)):=below_al (below_al (below_self w) _) _
 have bx0:=Bx.new (w.alloc (.cells #[.int .i64 a,.int .i64 l] 31)) 150 0 0
 rw[World.size_alloc] at bx0
 obtain⟨hp,hl,hA⟩:=Bur.usF_ok h
 have hf:Bur.fault a l=0:=hp
 obtain⟨x,hx⟩:∃ x,x=(Bur.usa (a,l)).1:=⟨_,rfl⟩
 obtain⟨y,hy⟩:∃ y,y=(Bur.usa (a,l)).2:=⟨_,rfl⟩
 have hus:Hid (Bur.usS (a,l)=(x,y)):=by show _=_;rw[hx,hy];exact if_pos hf
 have H:Hid (ev (if 200<u.length then 3 else Bur.adF u)=.nilIface):=by show _=_;rw[<- show Bur.usF (a,l) u=if 200<u.length then 3 else Bur.adF u from if_pos hf,h];rfl
 have H0:Hid (ev (Bur.fault a l)=.nilIface):=by show _=_;rw[hf];rfl
 have hin:=Bur.usa_in hp
 rw[<- hx,<- hy] at hin ⊢
 clear hf h hp hx hy
 go_enter Tryz.func71,Tryz.ntmps71
 go_wp2_with fail
 refine (usable _ _ _).mono ?_
 rintro e w1 ⟨rfl,hb1⟩
 rw[hus.out,H0.out]
 have bx1:=bx0.step hb1
 replace hb1:=below_via hbA hb1
 have hu1:=hu.step hb1
 have bs:=Bx.new w1 150 x y
 have bx2:=bx1.step (below_al (below_self w1) (.cells #[.int .i64 x,.int .i64 y] 150))
 have hb2:=below_al hb1 (.cells #[.int .i64 x,.int .i64 y] 150)
 have hu2:=hu1.step (below_al (below_self w1) (.cells #[.int .i64 x,.int .i64 y] 150))
 have hs1:=hb1.size
 clear hu hbA bx0 bx1 hb1 hu1 H0 hus
 go_wp2_with fail
 refine (checkUsed u p cap _ (by omega) hu2).mono ?_
 rintro e w2 ⟨rfl,hb3⟩
 replace bx2:=bx2.step hb3
 replace bs:=bs.step hb3
 replace hu2:=hu2.step hb3
 replace hb2:=below_via hb2 hb3
 rw[H.out]
 clear hb3 H
 go_wp2
 go_loopw [31] (fun i wr=>∃ k:Nat,k<=u.length/\i=.int .i64 k/\wr.ownsMap Tryz.prog 3 unitElem w2.heap.size k (tkD x y (u.take k))/\Below w2.heap.size w2 wr) (fun i _=>u.length - (intOf i).toNat)
 case atStart=>exact⟨0,by omega,rfl,by rw[List.take_zero,tkD_nil];exact World.ownsMap_made _ _ _ _,below_al (below_self _) _⟩
 case round=>
  obtain⟨k,hk,rfl,hown,hb⟩:=hrel
  obtain⟨s0,s1,_,_⟩:=bs.step hb
  by_cases hlt:k<u.length
  ·have hlt':(k:Int)<(u.length:Int):=by omega
   obtain⟨b,off,rfl,hbl,hc⟩:=hu2 (by omega)
   have c0:wr.cell? ⟨b,off+k,none⟩=some (.int .i64 (u.getD k 0)):=(hb.cell (p:=⟨b,off+k,none⟩) hbl).trans (hc k hlt)
   have hT:Hid (u.take (k+1)=u.take k ++ [u.getD k 0]):=take_int hlt
   have hZ:Bur.isA (u.getD k 0)=true:=hA _ (by simp[List.getD,List.getElem?_eq_getElem hlt])
   obtain⟨z,hz⟩:∃ z,z=u.getD k 0:=⟨_,rfl⟩
   rw[<- hz] at c0 hT hZ
   have hkey:=key_adr hZ
   have hzz:=Bur.isA_true hZ
   clear hz hc hu2 hZ bx2 bs hA
   by_cases h1:x<=z
   ·by_cases h2:z<=y
    ·go_wp2_with (first
      | (at_mapUpdate;refine wpList_mapUpdate_own _ rfl _ _ _ 151 rfl 3 145 keyInt Tryz.underlying151 (unitElem (H:=Unit)) w2.heap.size k _ rfl hown (by unfold maxLen;omega) _ _ _ rfl rfl hkey _ [] unitElem_mk ?_;intro w3 hown1 hgrow1)
      | go_in)
     exact⟨⟨k+1,by omega,by go_num,by rw[hT.out,tkD_in h1 h2];exact hown1,hb.grown hgrow1 hb.size (fun j hj=>by cases hj;exact Nat.le_refl _)⟩,by simp[intOf];omega⟩
    ·go_wp2
     exact⟨⟨k+1,by omega,by go_num,by rw[hT.out,tkD_out (by omega)];exact hown.mono (Nat.le_succ _),hb⟩,by simp[intOf];omega⟩
   ·go_wp2
    exact⟨⟨k+1,by omega,by go_num,by rw[hT.out,tkD_out (by omega)];exact hown.mono (Nat.le_succ _),hb⟩,by simp[intOf];omega⟩
  ·obtain⟨c0,c1,f0,f1⟩:=bx2.step hb
   have hE:k=u.length:=by omega
   have hown':wr.ownsMap Tryz.prog 3 unitElem w2.heap.size u.length (tkD x y u):=by rw[hE,List.take_length] at hown;exact hown
   have hne:w2.heap.size≠w.heap.size+1:=fun g=>by have:=bx2.lt;omega
   have hs2:=hb2.size
   have hB:=below_via hb2 hb
   have hv1:=(hown'.setCell (a:=⟨w.heap.size+1,0,none⟩) hne (.int .i64 x)).setCell (a:=⟨w.heap.size+1,1,none⟩) hne (.int .i64 y)
   clear hown hA hu2 bx2 bs
   go_wp2
   exact bodyPost_ret (v:=.tuple #[pfx x y,.map (some w2.heap.size),.nilIface]) (by simp[results,Tryz.results71,go_sem,c0,c1]) rfl ⟨w2.heap.size,hs2,rfl,hv1,by repeat (first|exact hB|refine Below.setCell ?_ (by simp) _)⟩
theorem next (a l:Int) (u:List Int) (p:Option Addr) (cap:Nat) (w:World) (hl:u.length<=9223372036854775807) (hu:InAt w p u) :
  Calls Tryz.prog 157 #[pfx a l,.slice p u.length cap] w fun e w'=>e=.returned (.tuple #[.int .i64 (Bur.nxS (a,l) u),ev (Bur.nxF (a,l) u)])/\Below w.heap.size w w':=by
 have hbA:=below_al (below_self w) (.cells #[.int .i64 a,.int .i64 l] 31)
 by_cases h:Bur.usF (a,l) u=0
 ·have hin:=Bur.usa_in (Bur.usF_ok h).1
  have K:=taken_ok _ _ u p cap _ (hu.step hbA) h
  have hN:Bur.nxt (a,l) u=Bur.nxN u ((Bur.usa (a,l)).2 - (Bur.usa (a,l)).1+1).toNat (Bur.usa (a,l)).1:=rfl
  rw[show Bur.nxS (a,l) u=(Bur.nxt (a,l) u).getD 0 from if_pos h,show Bur.nxF (a,l) u=if (Bur.nxt (a,l) u).isSome=true then 0 else 4 from if_pos h]
  obtain⟨x,hx⟩:∃ x,x=(Bur.usa (a,l)).1:=⟨_,rfl⟩
  obtain⟨y,hy⟩:∃ y,y=(Bur.usa (a,l)).2:=⟨_,rfl⟩
  obtain⟨N,hNN⟩:∃ N,N=Bur.nxt (a,l) u:=⟨_,rfl⟩
  rw[<- hx,<- hy] at hin K hN
  rw[<- hNN] at hN ⊢
  obtain⟨R,hR⟩:∃ R,R=Ending.returned (.tuple #[.int .i64 (N.getD 0),ev (if N.isSome=true then 0 else 4)]):=⟨_,rfl⟩
  rw[<- hR]
  replace hN:Hid _:=hN
  replace hR:Hid _:=hR
  clear hx hy h hu hNN
  go_enter Tryz.func157,Tryz.ntmps157
  go_wp2_with fail
  refine K.mono ?_
  rintro e w1 ⟨B,hB,rfl,hown,hb1⟩
  have hb2:=below_al (below_via hbA hb1) (.cells #[.int .i64 x,.int .i64 y] 150)
  have hownA:=hown.alloc (.cells #[.int .i64 x,.int .i64 y] 150)
  have bs:=Bx.new w1 150 x y
  clear hbA K hown hb1
  go_wp2
  obtain⟨w2,hw2⟩:∃ w2,w2=w1.alloc (.cells #[.int .i64 x,.int .i64 y] 150):=⟨_,rfl⟩
  rw[<- hw2] at hb2 hownA bs ⊢
  go_loopw [9] (fun i wr=>∃ c:Int,x<=c/\c<=y+1/\i=.int .i64 c/\Hid (N=Bur.nxN u (y - c+1).toNat c)/\Below w2.heap.size w2 wr) (fun i _=>(y+1 - intOf i).toNat)
  case atStart=>exact⟨x,by omega,by omega,rfl,hN,below_self _⟩
  case round=>
   obtain⟨c,hc1,hc2,rfl,hM,hb⟩:=hrel
   obtain⟨s0,s1,_,_⟩:=bs.step hb
   have hown:wr.ownsMap Tryz.prog 3 unitElem B u.length (tkD x y u):=map_below hownA hb
   clear hownA bs
   by_cases hlt:c<=y
   ·have hkey:=key_adr (x:=c) (Bur.isA_mk (by omega) (by omega))
    have hst:Hid _:=hM.out.trans (Bur.nxN_tk (u:=u) hc1 hlt)
    cases hm:decide (c∈Bur.tk x y u)
    ·have hE:Hid (R=Ending.returned (.tuple #[.int .i64 c,.nilIface])):=by
      show _=_
      rw[hR.out,hst.out,if_neg (by simpa using hm)];rfl
     replace hm:Hid _:=hm
     clear hst hM hR hN
     go_wp2_with (first
      | (at_lookup;refine wpList_lookup_own_unit _ rfl _ _ 151 rfl 3 145 keyInt Tryz.underlying151 (zeroUnit _) B u.length _ rfl hown _ _ rfl hkey ?_;rw[has_tk,hm.out])
      | go_in)
     go_ret2
     exact⟨by rw[hE.out];rfl,below_al (below_via hb2 hb) _⟩
    ·have hst2:Hid (N=Bur.nxN u (y - (c+1)+1).toNat (c+1)):=by
      show _=_
      rw[hst.out,if_pos (by simpa using hm)]
     replace hm:Hid _:=hm
     clear hst hM hR hN
     go_wp2_with (first
      | (at_lookup;refine wpList_lookup_own_unit _ rfl _ _ 151 rfl 3 145 keyInt Tryz.underlying151 (zeroUnit _) B u.length _ rfl hown _ _ rfl hkey ?_;rw[has_tk,hm.out])
      | go_in)
     exact⟨⟨c+1,by omega,by omega,rfl,hst2,below_al hb _⟩,by simp[intOf];omega⟩
   ·have hE:Hid (R=Ending.returned (.tuple #[.int .i64 0,errN 4])):=by
     show _=_
     rw[hR.out,hM.out,show (y - c+1).toNat=0 from by omega];rfl
    clear hM hR hN hown
    go_wp2
    go_ret2
    exact⟨by rw[hE.out];rfl,below_via hb2 hb⟩
 ·rw[show Bur.nxS (a,l) u=0 from if_neg h,show Bur.nxF (a,l) u=Bur.usF (a,l) u from if_neg h,ev_ne h]
  go_enter Tryz.func157,Tryz.ntmps157
  go_wp2_with fail
  refine (taken_no _ _ u p cap _ hl (hu.step hbA) h).mono ?_
  rintro e w1 ⟨rfl,hb1⟩
  have hb2:=below_via hbA hb1
  clear h hbA hb1 hu
  go_wp2
  go_ret2
  exact⟨rfl,below_al hb2 _⟩
end Go.Proofs.YtmghmpclmphccaaGreatDoor.Ha
namespace Go.Proofs.YtmghmpclmphccaaGreatDoor.Sa
open Go.RowKit
theorem checkLen (a z n:Int) (w:World):Calls Tryz.prog 235 #[pfx a z,.int .i64 n] w fun e w'=>e=.returned (ev (Bur.lnF (a,z) n))/\Below w.heap.size w w':=by
 by_cases h:n<z
 ·have E:Hid (Bur.lnF (a,z) n=1):=if_pos (.inl h)
  go_enter Tryz.func235,Tryz.ntmps235
  go_wp2
  go_ret
  exact⟨by rw[E.out];rfl,below_al (below_self _) _⟩
 ·by_cases h2:32<n
  ·have E:Hid (Bur.lnF (a,z) n=1):=if_pos (.inr h2)
   go_enter Tryz.func235,Tryz.ntmps235
   go_wp2
   go_ret
   exact⟨by rw[E.out];rfl,below_al (below_self _) _⟩
  ·have E:Hid (Bur.lnF (a,z) n=0):=if_neg (by show ¬ (n<z \/ 32<n);omega)
   go_enter Tryz.func235,Tryz.ntmps235
   go_wp2
   go_ret
   exact⟨by rw[E.out];rfl,below_al (below_self _) _⟩
theorem fit (lo hi n:Int) (w:World) (h0:0<=lo) (h1:lo<=hi) (h2:hi<=4294967295) (n0:0<=n) (n1:n<=32) :
  Calls Tryz.prog 201 #[pfx lo hi,.int .i64 n] w fun e w'=>e=.returned (.tuple #[.int .i64 (Bur.upn (Bur.sz n) lo),.int .i64 (Bur.plc (Bur.sz n) (lo,hi))])/\Below w.heap.size w w':=by
 have hz:=Bur.sz_pos n
 have hz2:=Bur.sz_le32 n0
 have e0:wrap64 (2 ^ (32 - n).toNat)=Bur.sz n:=by
  unfold Bur.sz at *
  exact IntWalk.wrap64_in _ (by omega)
 have F1:wrap64 (wrap64 (lo+Bur.sz n) - 1)=lo+Bur.sz n - 1:=by rw[IntWalk.wrap64_in (lo+Bur.sz n) (by omega),IntWalk.wrap64_in _ (by omega)]
 have q1:0<=(lo+Bur.sz n - 1) / Bur.sz n:=Int.ediv_nonneg (by omega) (by omega)
 have q2:(lo+Bur.sz n - 1) / Bur.sz n<=lo+Bur.sz n - 1:=Int.ediv_le_self _ (by omega)
 have q3:0<=(hi+1) / Bur.sz n:=Int.ediv_nonneg (by omega) (by omega)
 have q4:(hi+1) / Bur.sz n<=hi+1:=Int.ediv_le_self _ (by omega)
 obtain⟨u1,u2,u3⟩:=Bur.upn_spec hz lo
 have F2:wrap64 ((lo+Bur.sz n - 1).tdiv (Bur.sz n))=(lo+Bur.sz n - 1) / Bur.sz n:=by rw[Int.tdiv_eq_ediv_of_nonneg (by omega),IntWalk.wrap64_in _ (by omega)]
 have F3:wrap64 ((hi+1).tdiv (Bur.sz n))=(hi+1) / Bur.sz n:=by rw[Int.tdiv_eq_ediv_of_nonneg (by omega),IntWalk.wrap64_in _ (by omega)]
 have F4:wrap64 ((lo+Bur.sz n - 1) / Bur.sz n*Bur.sz n)=Bur.upn (Bur.sz n) lo:=IntWalk.wrap64_in (Bur.upn (Bur.sz n) lo) (by omega)
 have F5:wrap64 ((hi+1) / Bur.sz n - (lo+Bur.sz n - 1) / Bur.sz n)=(hi+1) / Bur.sz n - (lo+Bur.sz n - 1) / Bur.sz n:=IntWalk.wrap64_in _ (by omega)
 have P:Hid ((Bur.plc (Bur.sz n) (lo,hi):Int)=max 0 ((hi+1) / Bur.sz n - (lo+Bur.sz n - 1) / Bur.sz n)):=Bur.plc_eq hz (lo,hi)
 go_enter Tryz.func201,Tryz.ntmps201
 go_wp2
 all_goals simp only [e0,F1,F2,F3,F4,F5] at *
 all_goals
  go_ret2
  refine⟨?_,below_al (below_self _) _⟩
  rw[P.out]
  first|rw[Int.max_eq_right (by omega)]|rw[Int.max_eq_left (by omega)]
  rfl
end Go.Proofs.YtmghmpclmphccaaGreatDoor.Sa
namespace Go.Proofs.YtmghmpclmphccaaGreatDoor.Ta
open Go.RowKit
theorem prefixes_same (p q:Option Addr) (ca cb:Nat) (l:List Bur.Sp) (w:World) (hl:l.length<=9223372036854775807) (hs:SpAt w p l) (ht:SpAt w q l):Calls Tryz.prog 33 #[.slice p l.length ca,.slice q l.length cb] w fun e w'=>e=.returned (.bool true)/\Below w.heap.size w w':=by
 have hne:((l.length:Int) != (l.length:Int))=false:=by simp
 go_enter Tryz.func33,Tryz.ntmps33
 go_wp2
 go_loopw [5] (fun i wr=>∃ (k m:Nat),k<=l.length/\i=.int .i64 k/\wr=w.drewN m) (fun i _=>(l.length - intOf i).toNat)
 case atStart=>exact⟨0,0,by omega,rfl,rfl⟩
 case round=>
  obtain⟨k,m,hk,rfl,rfl⟩:=hrel
  by_cases hlt:k<l.length
  ·have hlt':(k:Int)<(l.length:Int):=by omega
   obtain⟨A,oa,rfl,hbl,hc⟩:=hs (by omega)
   obtain⟨B,ob,rfl,hbl2,hd⟩:=ht (by omega)
   have c0:(w.drewN m).cell? ⟨A,oa+k*2,none⟩=some (.int .i64 (lo l k)):=(hc k hlt).1
   have c1:(w.drewN m).cell? ⟨A,oa+k*2+1,none⟩=some (.int .i64 (hi l k)):=(hc k hlt).2
   have c2:(w.drewN m).cell? ⟨B,ob+k*2,none⟩=some (.int .i64 (lo l k)):=(hd k hlt).1
   have c3:(w.drewN m).cell? ⟨B,ob+k*2+1,none⟩=some (.int .i64 (hi l k)):=(hd k hlt).2
   generalize hW:w.drewN m=W at c0 c1 c2 c3 ⊢
   have HW:Hid (w.drewN m=W):=hW
   have b1:(lo l k != lo l k)=false:=by simp
   have b2:(hi l k != hi l k)=false:=by simp
   clear hW hc hd hs ht
   go_wp2
   go_quiet (fail)
   go_wp2
   exact⟨⟨k+1,m+nq,by omega,by go_num,by rw[<- HW.out];simp⟩,by simp[intOf];omega⟩
  ·clear hs ht
   go_wp2
   go_ret
   exact⟨rfl,below_drewN (below_self _) m⟩
end Go.Proofs.YtmghmpclmphccaaGreatDoor.Ta
