/- -/
import Derived.Test.YtmghmpclmphccaaGreatDoorGAdBase
import Derived.Test.YtmghmpclmphccaaGreatDoorGCvMath
set_option maxHeartbeats 2000000
namespace Go.Proofs.YtmghmpclmphccaaGreatDoor.Ha
open Go.RowKit
def rD (w:World)(p:Option Addr)(zs:List Int):Prop:=
 0<zs.length -> ∃b off,p=some ⟨b,off,none⟩/\b<w.heap.size /\ ∀i,i<zs.length->w.cell? ⟨b,off+i,none⟩=some (.int .i64 (zs.getD i 0))
theorem rD.step {w w':World}{p:Option Addr}{zs:List Int}(h:rD w p zs)(hb:Below w.heap.size w w'):rD w' p zs:=by
 intro hl
 obtain⟨b,off,rfl,hlt,hc⟩:=h hl
 refine⟨b,off,rfl,Nat.lt_of_lt_of_le hlt hb.size,fun i hi=>?_⟩
 rw[hb.cell (p:=⟨b,off+i,none⟩) hlt]
 exact hc i hi
theorem Em {zs:List Int}{k:Nat}(h:k<zs.length):zs.drop k=zs.getD k 0 :: zs.drop (k+1):=by
 rw[List.drop_eq_getElem_cons h]
 simp only [List.getD,List.getElem?_eq_getElem h,Option.getD_some]
theorem Y6 {zs:List Int}{k:Nat}(h:k<zs.length):zs.take (k+1)=zs.take k ++ [zs.getD k 0]:=by
 rw[List.take_add_one]
 simp[List.getD,List.getElem?_eq_getElem h]
theorem usable (a l:Int)(w:World):Calls Tryz.prog 122 #[pfx a l] w fun e w'=>e=.returned (.tuple #[pfx (Bur.usS (a,l)).1 (Bur.usS (a,l)).2,ev (Bur.fault a l)])/\Below w.heap.size w w':=by
 by_cases h:Bur.fault a l=0
 ·obtain⟨h0,h1,a0,a1,hz⟩:=Bur.bn h
  have hp:=Bur.bJ l
  have hq:=Bur.adS l h0
  by_cases h31:31<=l
  ·rw[show Bur.usS (a,l)=(a,a+(Bur.sz l - 1)) from by rw[Bur.usS,if_pos h,Bur.usa,if_pos (by show 30<l;omega)];show (a,a+Bur.sz l - 1)=_;rw[Int.add_sub_assoc],show ev (Bur.fault a l)=.nilIface from by rw[h,aB]]
   go_enter Tryz.func122,Tryz.ntmps122
   go_wp2_with (go_at_call 170;refine (LK _ _ _ h).mono ?_;rintro e w' ⟨rfl,hb⟩;have c1:w'.cell? ⟨w.heap.size,1,none⟩=some (.int .i64 l):=(hb.cell (p:=⟨w.heap.size,1,none⟩) (by simp;omega)).trans (by simp);have c2:w'.frozen? ⟨w.heap.size+1,0,none⟩=false:=(hb.frozen (p:=⟨w.heap.size+1,0,none⟩) (by simp)).trans (by simp);have c3:w'.frozen? ⟨w.heap.size+1,1,none⟩=false:=(hb.frozen (p:=⟨w.heap.size+1,1,none⟩) (by simp)).trans (by simp);have c4:w'.cell? ⟨w.heap.size+1,0,none⟩=some (.int .i64 0):=(hb.cell (p:=⟨w.heap.size+1,0,none⟩) (by simp)).trans (by simp);have c5:w'.cell? ⟨w.heap.size+1,1,none⟩=some (.int .i64 0):=(hb.cell (p:=⟨w.heap.size+1,1,none⟩) (by simp)).trans (by simp);have hb2:=ak (aj (aj (ah w) _) _) hb;clear hb)
   exact bodyPost_ret (v:=.tuple #[pfx a (a+(Bur.sz l - 1)),.nilIface]) (by simp[results,Tryz.results122,go_sem,c4,c5]) rfl ⟨rfl,by repeat (first|exact hb2|refine Below.setCell ?_ (by simp) _)⟩
  ·rw[show Bur.usS (a,l)=(a+1,a+(Bur.sz l - 1) - 1) from by rw[Bur.usS,if_pos h,Bur.usa,if_neg (by show ¬30<l;omega)];show (a+1,a+Bur.sz l - 2)=_;rw[show a+Bur.sz l - 2=a+(Bur.sz l - 1) - 1 from by omega],show ev (Bur.fault a l)=.nilIface from by rw[h,aB]]
   go_enter Tryz.func122,Tryz.ntmps122
   go_wp2_with (go_at_call 170;refine (LK _ _ _ h).mono ?_;rintro e w' ⟨rfl,hb⟩;have c1:w'.cell? ⟨w.heap.size,1,none⟩=some (.int .i64 l):=(hb.cell (p:=⟨w.heap.size,1,none⟩) (by simp;omega)).trans (by simp);have c2:w'.frozen? ⟨w.heap.size+1,0,none⟩=false:=(hb.frozen (p:=⟨w.heap.size+1,0,none⟩) (by simp)).trans (by simp);have c3:w'.frozen? ⟨w.heap.size+1,1,none⟩=false:=(hb.frozen (p:=⟨w.heap.size+1,1,none⟩) (by simp)).trans (by simp);have c4:w'.cell? ⟨w.heap.size+1,0,none⟩=some (.int .i64 0):=(hb.cell (p:=⟨w.heap.size+1,0,none⟩) (by simp)).trans (by simp);have c5:w'.cell? ⟨w.heap.size+1,1,none⟩=some (.int .i64 0):=(hb.cell (p:=⟨w.heap.size+1,1,none⟩) (by simp)).trans (by simp);have hb2:=ak (aj (aj (ah w) _) _) hb;clear hb)
   exact bodyPost_ret (v:=.tuple #[pfx (a+1) (a+(Bur.sz l - 1) - 1),.nilIface]) (by simp[results,Tryz.results122,go_sem,c4,c5]) rfl ⟨rfl,by repeat (first|exact hb2|refine Below.setCell ?_ (by simp) _)⟩
 ·rw[show Bur.usS (a,l)=(0,0) from if_neg h,ay h]
  go_enter Tryz.func122,Tryz.ntmps122
  go_wp2_with (go_at_call 170;refine (UC _ _ _ h).mono ?_;rintro e w' ⟨rfl,hb⟩;have c2:w'.frozen? ⟨w.heap.size+1,0,none⟩=false:=(hb.frozen (p:=⟨w.heap.size+1,0,none⟩) (by simp)).trans (by simp);have c3:w'.frozen? ⟨w.heap.size+1,1,none⟩=false:=(hb.frozen (p:=⟨w.heap.size+1,1,none⟩) (by simp)).trans (by simp);have c4:w'.cell? ⟨w.heap.size+1,0,none⟩=some (.int .i64 0):=(hb.cell (p:=⟨w.heap.size+1,0,none⟩) (by simp)).trans (by simp);have c5:w'.cell? ⟨w.heap.size+1,1,none⟩=some (.int .i64 0):=(hb.cell (p:=⟨w.heap.size+1,1,none⟩) (by simp)).trans (by simp);have hb2:=ak (aj (aj (ah w) _) _) hb;clear hb)
  exact bodyPost_ret (v:=.tuple #[pfx 0 0,aC (Bur.fault a l)]) (by simp[results,Tryz.results122,go_sem,c4,c5]) rfl ⟨rfl,by repeat (first|exact hb2|refine Below.setCell ?_ (by simp) _)⟩
theorem Le (u:List Int)(p:Option Addr)(cap:Nat)(w:World)(hl:u.length<=9223372036854775807)(hu:rD w p u) :
  Calls Tryz.prog 123 #[.slice p u.length cap] w fun e w'=>e=.returned (ev (if 200<u.length then 3 else Bur.adF u))/\Below w.heap.size w w':=by
 by_cases h200:200<u.length
 ·rw[if_pos h200]
  go_enter Tryz.func123,Tryz.ntmps123
  go_wp2
  go_ret
  exact⟨rfl,ah _⟩
 rw[if_neg h200]
 go_enter Tryz.func123,Tryz.ntmps123
 go_wp2
 go_loopw [11] (fun i wr=>∃k:Nat,k<=u.length/\i=.int .i64 k/\Hid (Bur.adF u=Bur.adF (u.drop k))/\Below w.heap.size w wr) (fun i _=>u.length - (intOf i).toNat)
 case atStart=>exact⟨0,by omega,rfl,rfl,ah _⟩
 case round=>
  obtain⟨k,hk,rfl,R,hb⟩:=hrel
  by_cases hlt:k<u.length
  ·have hlt':(k:Int)<(u.length:Int):=by omega
   obtain⟨b,off,rfl,hbl,hc⟩:=hu (by omega)
   have c0:wr.cell? ⟨b,off+k,none⟩=some (.int .i64 (u.getD k 0)):=(hb.cell (p:=⟨b,off+k,none⟩) hbl).trans (hc k hlt)
   obtain⟨z,hz⟩:∃z,z=u.getD k 0:=⟨_,rfl⟩
   rw[<- hz] at c0
   have D:Hid (Bur.adF u=if Bur.isA z=true then Bur.adF (u.drop (k+1)) else 1):=by
    show _=_
    rw[R.out,Em hlt,<- hz];rfl
   clear hz hc hu R
   cases hA:Bur.isA z
   ·go_wp2_with (go_at_call 66;refine (dR _ _).mono ?_;rintro e w' ⟨rfl,hw⟩;have:=hw.symm;subst this)
    go_ret
    exact⟨by rw[D.out,hA];rfl,hb⟩
   ·go_wp2_with (go_at_call 66;refine (dR _ _).mono ?_;rintro e w' ⟨rfl,hw⟩;have:=hw.symm;subst this)
    exact⟨⟨k+1,by omega,by go_num,by show _=_;rw[D.out,if_pos hA],hb⟩,by simp[intOf];omega⟩
  ·have hd:u.drop k=[]:=List.drop_eq_nil_of_le (by omega)
   go_wp2
   go_ret
   exact⟨by rw[R.out,hd];rfl,hb⟩
end Go.Proofs.YtmghmpclmphccaaGreatDoor.Ha
namespace Go.Proofs.YtmghmpclmphccaaGreatDoor.Ha
open Go.RowKit Go.Maps
def tkD (lo hi:Int)(u:List Int):DataW Unit:=Maps.setOf (.agg []) ((Bur.tk lo hi u).map (Lit.int .i64))
theorem MQ (x:Int):∀l:List Int,(l.map (Lit.int .i64)).any (fun y=>y.sameKey (.int .i64 x))=decide (x∈l)
 | []=>rfl
 | a :: r=>by
  rw[List.map_cons,List.any_cons,MQ x r]
  show (decide (IntKind.i64=IntKind.i64/\a=x) || decide (x∈r))=_
  by_cases e:a=x
  ·subst e;simp
  ·have e':¬x=a:=fun h=>e h.symm
   simp[e,e']
theorem N7 (l:List Int):∀x∈l.map (Lit.int .i64),WideAt.IsKeyLit x:=fun x hx=>by obtain⟨_,_,rfl⟩:=List.mem_map.1 hx;trivial
theorem YT (lo hi x:Int)(u:List Int):Maps.has (tkD lo hi u) (.int .i64 x)=decide (x∈Bur.tk lo hi u):=by
 unfold tkD
 rw[has_setOf _ _ _ (N7 _)]
 exact MQ x _
theorem fold_add:∀(l acc:List Int),(l.map (Lit.int .i64)).foldl addKey (acc.map (Lit.int .i64))=(l.foldl Bur.PX acc).map (Lit.int .i64)
 | [],_=>rfl
 | a :: r,acc=>by
  rw[List.map_cons,List.foldl_cons,List.foldl_cons,<- fold_add r]
  congr 1
  unfold addKey Bur.PX
  rw[MQ]
  by_cases h:a∈acc
  ·rw[if_pos (by simpa using h),if_pos h]
  ·rw[if_neg (by simpa using h),if_neg h,List.map_append];rfl
theorem acs (p:Bur.Sp)(u:List Int):(Maps.size (tkD (Bur.usa p).1 (Bur.usa p).2 u):Int)=Bur.shp p u:=by
 unfold tkD
 rw[size_setOf _ _ (N7 _),show ([]:List Lit)=([]:List Int).map (Lit.int .i64) from rfl,fold_add,List.length_map,Bur.Ze]
theorem ab9 (lo hi:Int):tkD lo hi []=.map []:=rfl
theorem af8 {lo hi x:Int}(h1:lo<=x)(h2:x<=hi)(u:List Int):tkD lo hi (u ++ [x])=(tkD lo hi u).put (.int .i64 x) (.agg []):=by
 unfold tkD
 rw[Bur.U7,if_pos ⟨h1,h2⟩,List.map_append,List.map_singleton,setOf_snoc]
theorem UY {lo hi x:Int}(h:¬(lo<=x/\x<=hi))(u:List Int):tkD lo hi (u ++ [x])=tkD lo hi u:=by
 unfold tkD
 rw[Bur.U7,if_neg h]
theorem dJ {w w':World}{k b n:Nat}{R:Value->Option (DataW Unit×List MemPlace)}{D:DataW Unit}(h:w.ownsMap Tryz.prog k R b n D)(hb:Below w.heap.size w w'):w'.ownsMap Tryz.prog k R b n D:=by
 obtain⟨es,clock,h1,r⟩:=h
 exact⟨es,clock,(hb.block b (Array.getElem?_eq_some_iff.1 h1).1).trans h1,r⟩
theorem rU:Keyed Tryz.prog 3:=int_keyed Tryz.underlying3
theorem P8 (w:World):(zeroValue 145).run Tryz.prog w=.ok (.agg #[]) w:=by kernel_rfl
theorem TY {x:Int}(h:Bur.isA x=true):keyOf Tryz.prog 3 (.int .i64 x)=some (.int .i64 x):=keyOf_int_mk Tryz.underlying3 (by have:=Bur.eX h;exact WalkArith.wf_i64 (by omega))
theorem Pq (a l:Int)(u:List Int)(p:Option Addr)(cap:Nat)(w:World)(hl:u.length<=9223372036854775807)(hu:rD w p u)(h:Bur.usF (a,l) u≠0) :
  Calls Tryz.prog 71 #[pfx a l,.slice p u.length cap] w fun e w'=>e=.returned (.tuple #[pfx 0 0,.map none,aC (Bur.usF (a,l) u)])/\Below w.heap.size w w':=by
 have hbA:Below w.heap.size w ((w.alloc (.cells #[.int .i64 a,.int .i64 l] 31)).alloc (.cells #[.int .i64 0,.int .i64 0] 150)):=aj (aj (ah w) _) _
 have bx0:=Bx.new (w.alloc (.cells #[.int .i64 a,.int .i64 l] 31)) 150 0 0
 rw[World.size_alloc] at bx0
 by_cases hf:Bur.fault a l=0
 ·have E:Bur.usF (a,l) u=if 200<u.length then 3 else Bur.adF u:=if_pos hf
  have H:Hid (ev (if 200<u.length then 3 else Bur.adF u)=aC (Bur.usF (a,l) u)):=by show _=_;rw[<- E];exact ay h
  have H0:Hid (ev (Bur.fault a l)=.nilIface):=by show _=_;rw[hf];rfl
  clear E hf
  go_enter Tryz.func71,Tryz.ntmps71
  go_wp2_with fail
  refine (usable _ _ _).mono ?_
  rintro e w1 ⟨rfl,hb1⟩
  have bx1:=bx0.step hb1
  replace hb1:=ak hbA hb1
  have hu1:=hu.step hb1
  have bx2:=fun o=>bx1.step (aj (ah w1) o)
  have hb2:=fun o=>aj hb1 o
  have hu2:=fun o=>hu1.step (aj (ah w1) o)
  rw[H0.out]
  clear hu hbA bx0 bx1 hb1 hu1 H0
  go_wp2_with fail
  refine (Le u p cap _ hl (hu2 _)).mono ?_
  rintro e w2 ⟨rfl,hb3⟩
  obtain⟨c0,c1,f0,f1⟩:=(bx2 _).step hb3
  have hb4:=ak (hb2 _) hb3
  rw[H.out]
  clear bx2 hb2 hu2 hb3 H h
  go_wp2
  exact bodyPost_ret (v:=.tuple #[pfx 0 0,.map none,aC (Bur.usF (a,l) u)]) (by simp[results,Tryz.results71,go_sem,c0,c1]) rfl ⟨rfl,by repeat (first|exact hb4|refine Below.setCell ?_ (by simp) _)⟩
 ·have E:Bur.usF (a,l) u=Bur.fault a l:=if_neg hf
  have H0:Hid (ev (Bur.fault a l)=aC (Bur.fault a l)):=ay hf
  rw[E]
  clear E hf h
  go_enter Tryz.func71,Tryz.ntmps71
  go_wp2_with fail
  refine (usable _ _ _).mono ?_
  rintro e w1 ⟨rfl,hb1⟩
  have bx1:=bx0.step hb1
  replace hb1:=ak hbA hb1
  rw[H0.out]
  obtain⟨c0,c1,f0,f1⟩:=bx1.step (aj (ah w1) (.cells #[.int .i64 (Bur.usS (a,l)).1,.int .i64 (Bur.usS (a,l)).2] 150))
  have hb2:=aj hb1 (.cells #[.int .i64 (Bur.usS (a,l)).1,.int .i64 (Bur.usS (a,l)).2] 150)
  clear hu hbA bx0 bx1 hb1 H0
  go_wp2
  exact bodyPost_ret (v:=.tuple #[pfx 0 0,.map none,aC (Bur.fault a l)]) (by simp[results,Tryz.results71,go_sem,c0,c1]) rfl ⟨rfl,by repeat (first|exact hb2|refine Below.setCell ?_ (by simp) _)⟩
theorem OU (a l:Int)(u:List Int)(p:Option Addr)(cap:Nat)(w:World)(hu:rD w p u)(h:Bur.usF (a,l) u=0) :
  Calls Tryz.prog 71 #[pfx a l,.slice p u.length cap] w fun e w'=>∃B,w.heap.size<=B/\e=.returned (.tuple #[pfx (Bur.usa (a,l)).1 (Bur.usa (a,l)).2,.map (some B),.nilIface])/\w'.ownsMap Tryz.prog 3 unitElem B u.length (tkD (Bur.usa (a,l)).1 (Bur.usa (a,l)).2 u)/\Below w.heap.size w w':=by
 have hmm:=@run_makeMap Tryz.prog
 have hbA:Below w.heap.size w ((w.alloc (.cells #[.int .i64 a,.int .i64 l] 31)).alloc (.cells #[.int .i64 0,.int .i64 0] 150)):=aj (aj (ah w) _) _
 have bx0:=Bx.new (w.alloc (.cells #[.int .i64 a,.int .i64 l] 31)) 150 0 0
 rw[World.size_alloc] at bx0
 obtain⟨hp,hl,hA⟩:=Bur.zZ h
 have hf:Bur.fault a l=0:=hp
 obtain⟨x,hx⟩:∃x,x=(Bur.usa (a,l)).1:=⟨_,rfl⟩
 obtain⟨y,hy⟩:∃y,y=(Bur.usa (a,l)).2:=⟨_,rfl⟩
 have hus:Hid (Bur.usS (a,l)=(x,y)):=by show _=_;rw[hx,hy];exact if_pos hf
 have H:Hid (ev (if 200<u.length then 3 else Bur.adF u)=.nilIface):=by show _=_;rw[<- show Bur.usF (a,l) u=if 200<u.length then 3 else Bur.adF u from if_pos hf,h];rfl
 have H0:Hid (ev (Bur.fault a l)=.nilIface):=by show _=_;rw[hf];rfl
 have hin:=Bur.D5 hp
 rw[<- hx,<- hy] at hin ⊢
 clear hf h hp hx hy
 go_enter Tryz.func71,Tryz.ntmps71
 go_wp2_with fail
 refine (usable _ _ _).mono ?_
 rintro e w1 ⟨rfl,hb1⟩
 rw[hus.out,H0.out]
 have bx1:=bx0.step hb1
 replace hb1:=ak hbA hb1
 have hu1:=hu.step hb1
 have bs:=Bx.new w1 150 x y
 have bx2:=bx1.step (aj (ah w1) (.cells #[.int .i64 x,.int .i64 y] 150))
 have hb2:=aj hb1 (.cells #[.int .i64 x,.int .i64 y] 150)
 have hu2:=hu1.step (aj (ah w1) (.cells #[.int .i64 x,.int .i64 y] 150))
 have hs1:=hb1.size
 clear hu hbA bx0 bx1 hb1 hu1 H0 hus
 go_wp2_with fail
 refine (Le u p cap _ (by omega) hu2).mono ?_
 rintro e w2 ⟨rfl,hb3⟩
 replace bx2:=bx2.step hb3
 replace bs:=bs.step hb3
 replace hu2:=hu2.step hb3
 replace hb2:=ak hb2 hb3
 rw[H.out]
 clear hb3 H
 go_wp2
 go_loopw [31] (fun i wr=>∃k:Nat,k<=u.length/\i=.int .i64 k/\wr.ownsMap Tryz.prog 3 unitElem w2.heap.size k (tkD x y (u.take k))/\Below w2.heap.size w2 wr) (fun i _=>u.length - (intOf i).toNat)
 case atStart=>exact⟨0,by omega,rfl,by rw[List.take_zero,ab9];exact World.ownsMap_made _ _ _ _,aj (ah _) _⟩
 case round=>
  obtain⟨k,hk,rfl,hown,hb⟩:=hrel
  obtain⟨s0,s1,_,_⟩:=bs.step hb
  by_cases hlt:k<u.length
  ·have hlt':(k:Int)<(u.length:Int):=by omega
   obtain⟨b,off,rfl,hbl,hc⟩:=hu2 (by omega)
   have c0:wr.cell? ⟨b,off+k,none⟩=some (.int .i64 (u.getD k 0)):=(hb.cell (p:=⟨b,off+k,none⟩) hbl).trans (hc k hlt)
   have hT:Hid (u.take (k+1)=u.take k ++ [u.getD k 0]):=Y6 hlt
   have hZ:Bur.isA (u.getD k 0)=true:=hA _ (by simp[List.getD,List.getElem?_eq_getElem hlt])
   obtain⟨z,hz⟩:∃z,z=u.getD k 0:=⟨_,rfl⟩
   rw[<- hz] at c0 hT hZ
   have hkey:=TY hZ
   have hzz:=Bur.eX hZ
   clear hz hc hu2 hZ bx2 bs hA
   by_cases h1:x<=z
   ·by_cases h2:z<=y
    ·go_wp2_with (first
      | (at_mapUpdate;refine wpList_mapUpdate_own _ rfl _ _ _ 151 rfl 3 145 rU Tryz.underlying151 (unitElem (H:=Unit)) w2.heap.size k _ rfl hown (by unfold maxLen;omega) _ _ _ rfl rfl hkey _ [] unitElem_mk ?_;intro w3 hown1 hgrow1)
      | go_in)
     exact⟨⟨k+1,by omega,by go_num,by rw[hT.out,af8 h1 h2];exact hown1,hb.grown hgrow1 hb.size (fun j hj=>by cases hj;exact Nat.le_refl _)⟩,by simp[intOf];omega⟩
    ·go_wp2
     exact⟨⟨k+1,by omega,by go_num,by rw[hT.out,UY (by omega)];exact hown.mono (Nat.le_succ _),hb⟩,by simp[intOf];omega⟩
   ·go_wp2
    exact⟨⟨k+1,by omega,by go_num,by rw[hT.out,UY (by omega)];exact hown.mono (Nat.le_succ _),hb⟩,by simp[intOf];omega⟩
  ·obtain⟨c0,c1,f0,f1⟩:=bx2.step hb
   have hE:k=u.length:=by omega
   have hown':wr.ownsMap Tryz.prog 3 unitElem w2.heap.size u.length (tkD x y u):=by rw[hE,List.take_length] at hown;exact hown
   have hne:w2.heap.size≠w.heap.size+1:=fun g=>by have:=bx2.lt;omega
   have hs2:=hb2.size
   have hB:=ak hb2 hb
   have hv1:=(hown'.setCell (a:=⟨w.heap.size+1,0,none⟩) hne (.int .i64 x)).setCell (a:=⟨w.heap.size+1,1,none⟩) hne (.int .i64 y)
   clear hown hA hu2 bx2 bs
   go_wp2
   exact bodyPost_ret (v:=.tuple #[pfx x y,.map (some w2.heap.size),.nilIface]) (by simp[results,Tryz.results71,go_sem,c0,c1]) rfl ⟨w2.heap.size,hs2,rfl,hv1,by repeat (first|exact hB|refine Below.setCell ?_ (by simp) _)⟩
theorem share (a l:Int)(u:List Int)(p:Option Addr)(cap:Nat)(w:World)(hl:u.length<=9223372036854775807)(hu:rD w p u) :
  Calls Tryz.prog 42 #[pfx a l,.slice p u.length cap] w fun e w'=>e=.returned (.tuple #[.int .i64 (Bur.shS (a,l) u),.int .i64 (Bur.shA (a,l) u),ev (Bur.usF (a,l) u)])/\Below w.heap.size w w':=by
 have hbA:=aj (ah w) (.cells #[.int .i64 a,.int .i64 l] 31)
 by_cases h:Bur.usF (a,l) u=0
 ·rw[show Bur.shS (a,l) u=Bur.shp (a,l) u from if_pos h,show Bur.shA (a,l) u=(Bur.usa (a,l)).2 - (Bur.usa (a,l)).1+1 from if_pos h,h,aB,<- acs]
  have hin:=Bur.D5 (Bur.zZ h).1
  have K:=OU _ _ u p cap _ (hu.step hbA) h
  obtain⟨x,hx⟩:∃x,x=(Bur.usa (a,l)).1:=⟨_,rfl⟩
  obtain⟨y,hy⟩:∃y,y=(Bur.usa (a,l)).2:=⟨_,rfl⟩
  rw[<- hx,<- hy] at hin K ⊢
  clear hx hy h hu
  go_enter Tryz.func42,Tryz.ntmps42
  go_wp2_with fail
  refine K.mono ?_
  rintro e w1 ⟨B,hB,rfl,hown,hb1⟩
  have hb2:=ak hbA hb1
  have hlen:=(hown.alloc (.cells #[.int .i64 x,.int .i64 y] 150)).drew.len Tryz.underlying151
  clear hbA K hown
  go_wp2
  go_region_held3 (fun wy=>wy.cell? ⟨w1.heap.size,0,none⟩=some (.int .i64 x)/\wy.cell? ⟨w1.heap.size,1,none⟩=some (.int .i64 y) /\ ∀ty,(Builtin.len_ #[151] ty #[.map (some B)]).run Tryz.prog wy=.ok (.int .i64 (Maps.size (tkD x y u))) wy) (first|exact⟨by simp,by simp,hlen⟩|go_simp) (fail)
  go_wp2
  go_ret3
  have hwr:IntKind.i64.wrap (IntKind.i64.wrap (y - x)+1)=y - x+1:=by simp[IntKind.wrap,IntKind.bits,IntKind.signed];omega
  exact⟨by show Ending.returned (.tuple #[_,.int .i64 (IntKind.i64.wrap (IntKind.i64.wrap (y - x)+1)),_])=_;rw[hwr];rfl,(aj hb2 _).drew⟩
 ·rw[show Bur.shS (a,l) u=0 from if_neg h,show Bur.shA (a,l) u=0 from if_neg h,ay h]
  go_enter Tryz.func42,Tryz.ntmps42
  go_wp2_with fail
  refine (Pq _ _ u p cap _ hl (hu.step hbA) h).mono ?_
  rintro e w1 ⟨rfl,hb1⟩
  have hb2:=ak hbA hb1
  clear h hbA hb1 hu
  go_wp2
  go_ret3
  exact⟨rfl,aj hb2 _⟩
theorem next (a l:Int)(u:List Int)(p:Option Addr)(cap:Nat)(w:World)(hl:u.length<=9223372036854775807)(hu:rD w p u) :
  Calls Tryz.prog 157 #[pfx a l,.slice p u.length cap] w fun e w'=>e=.returned (.tuple #[.int .i64 (Bur.nxS (a,l) u),ev (Bur.nxF (a,l) u)])/\Below w.heap.size w w':=by
 have hbA:=aj (ah w) (.cells #[.int .i64 a,.int .i64 l] 31)
 by_cases h:Bur.usF (a,l) u=0
 ·have hin:=Bur.D5 (Bur.zZ h).1
  have K:=OU _ _ u p cap _ (hu.step hbA) h
  have hN:Bur.nxt (a,l) u=Bur.nxN u ((Bur.usa (a,l)).2 - (Bur.usa (a,l)).1+1).toNat (Bur.usa (a,l)).1:=rfl
  rw[show Bur.nxS (a,l) u=(Bur.nxt (a,l) u).getD 0 from if_pos h,show Bur.nxF (a,l) u=if (Bur.nxt (a,l) u).isSome=true then 0 else 4 from if_pos h]
  obtain⟨x,hx⟩:∃x,x=(Bur.usa (a,l)).1:=⟨_,rfl⟩
  obtain⟨y,hy⟩:∃y,y=(Bur.usa (a,l)).2:=⟨_,rfl⟩
  obtain⟨N,hNN⟩:∃N,N=Bur.nxt (a,l) u:=⟨_,rfl⟩
  rw[<- hx,<- hy] at hin K hN
  rw[<- hNN] at hN ⊢
  obtain⟨R,hR⟩:∃R,R=Ending.returned (.tuple #[.int .i64 (N.getD 0),ev (if N.isSome=true then 0 else 4)]):=⟨_,rfl⟩
  rw[<- hR]
  replace hN:Hid _:=hN
  replace hR:Hid _:=hR
  clear hx hy h hu hNN
  go_enter Tryz.func157,Tryz.ntmps157
  go_wp2_with fail
  refine K.mono ?_
  rintro e w1 ⟨B,hB,rfl,hown,hb1⟩
  have hb2:=aj (ak hbA hb1) (.cells #[.int .i64 x,.int .i64 y] 150)
  have hownA:=hown.alloc (.cells #[.int .i64 x,.int .i64 y] 150)
  have bs:=Bx.new w1 150 x y
  clear hbA K hown hb1
  go_wp2
  obtain⟨w2,hw2⟩:∃w2,w2=w1.alloc (.cells #[.int .i64 x,.int .i64 y] 150):=⟨_,rfl⟩
  rw[<- hw2] at hb2 hownA bs ⊢
  go_loopw [9] (fun i wr=>∃c:Int,x<=c/\c<=y+1/\i=.int .i64 c/\Hid (N=Bur.nxN u (y - c+1).toNat c)/\Below w2.heap.size w2 wr) (fun i _=>(y+1 - intOf i).toNat)
  case atStart=>exact⟨x,by omega,by omega,rfl,hN,ah _⟩
  case round=>
   obtain⟨c,hc1,hc2,rfl,hM,hb⟩:=hrel
   obtain⟨s0,s1,_,_⟩:=bs.step hb
   have hown:wr.ownsMap Tryz.prog 3 unitElem B u.length (tkD x y u):=dJ hownA hb
   clear hownA bs
   by_cases hlt:c<=y
   ·have hkey:=TY (x:=c) (Bur.qV (by omega) (by omega))
    have hst:Hid _:=hM.out.trans (Bur.aev (u:=u) hc1 hlt)
    cases hm:decide (c∈Bur.tk x y u)
    ·have hE:Hid (R=Ending.returned (.tuple #[.int .i64 c,.nilIface])):=by
      show _=_
      rw[hR.out,hst.out,if_neg (by simpa using hm)];rfl
     replace hm:Hid _:=hm
     clear hst hM hR hN
     go_wp2_with (first
      | (at_lookup;refine wpList_lookup_own_unit _ rfl _ _ 151 rfl 3 145 rU Tryz.underlying151 (P8 _) B u.length _ rfl hown _ _ rfl hkey ?_;rw[YT,hm.out])
      | go_in)
     go_ret2
     exact⟨by rw[hE.out];rfl,aj (ak hb2 hb) _⟩
    ·have hst2:Hid (N=Bur.nxN u (y - (c+1)+1).toNat (c+1)):=by
      show _=_
      rw[hst.out,if_pos (by simpa using hm)]
     replace hm:Hid _:=hm
     clear hst hM hR hN
     go_wp2_with (first
      | (at_lookup;refine wpList_lookup_own_unit _ rfl _ _ 151 rfl 3 145 rU Tryz.underlying151 (P8 _) B u.length _ rfl hown _ _ rfl hkey ?_;rw[YT,hm.out])
      | go_in)
     exact⟨⟨c+1,by omega,by omega,rfl,hst2,aj hb _⟩,by simp[intOf];omega⟩
   ·have hE:Hid (R=Ending.returned (.tuple #[.int .i64 0,aC 4])):=by
     show _=_
     rw[hR.out,hM.out,show (y - c+1).toNat=0 from by omega];rfl
    clear hM hR hN hown
    go_wp2
    go_ret2
    exact⟨by rw[hE.out];rfl,ak hb2 hb⟩
 ·rw[show Bur.nxS (a,l) u=0 from if_neg h,show Bur.nxF (a,l) u=Bur.usF (a,l) u from if_neg h,ay h]
  go_enter Tryz.func157,Tryz.ntmps157
  go_wp2_with fail
  refine (Pq _ _ u p cap _ hl (hu.step hbA) h).mono ?_
  rintro e w1 ⟨rfl,hb1⟩
  have hb2:=ak hbA hb1
  clear h hbA hb1 hu
  go_wp2
  go_ret2
  exact⟨rfl,aj hb2 _⟩
