/- -/
import Derived.WalkLawsBesides
import Derived.Test.YtmghmpclmphccaaGreatDoorGCcB
import Derived.Stop.Asserts
set_option maxHeartbeats 4000000
set_option maxRecDepth 30000
namespace Go.Proofs.YtmghmpclmphccaaGreatDoor
open Go.RowKit Go.Lib
abbrev DU:Value:=.iface 267 (.agg #[])
abbrev AL:List PanicEntry:=[{ v:=DU,recovered:=false }]
structure Rd (w:World)(rb:Nat)(r:List UInt8):Prop where
 lt:rb<w.heap.size
 fz:w.frozen? ⟨rb,0,none⟩=false
 at_:∃(q:Option Addr) (c:Nat),w.cell? ⟨rb,0,none⟩=some (.slice q r.length c)/\r.length<=c/\(0<r.length -> ∃b off,q=some ⟨b,off,none⟩/\b<rb/\ByC w b off r)
theorem Rd.but {w w':World}{rb:Nat}{r:List UInt8}{F:Nat->Prop}(h:Rd w rb r)(hb:But F w w')(hF:∀k,k<=rb -> ¬F k):Rd w' rb r:=by
 obtain⟨q,c,h1,h2,h3⟩:=h.at_
 refine⟨Nat.lt_of_lt_of_le h.lt hb.size,(hb.frozen (p:=⟨rb,0,none⟩) h.lt (hF _ (Nat.le_refl _))).trans h.fz,q,c,(hb.cell (p:=⟨rb,0,none⟩) h.lt (hF _ (Nat.le_refl _))).trans h1,h2,fun hl=>?_⟩
 obtain⟨b,off,rfl,hlt,hc⟩:=h3 hl
 exact⟨b,off,rfl,hlt,fun i x hx=>(hb.cell (p:=⟨b,off+i,none⟩) (Nat.lt_trans hlt h.lt) (hF _ (Nat.le_of_lt hlt))).trans (hc i x hx)⟩
theorem Rd.step {w w':World}{rb:Nat}{r:List UInt8}(h:Rd w rb r)(hb:Below w.heap.size w w'):Rd w' rb r:=h.but (F:=fun _=>False) (.below hb) (fun _ _=>id)
theorem Ry {w:World}{rb:Nat}{r:List UInt8}{n c c':Nat}{q q':Option Addr}(hlt:rb<w.heap.size)(hfz:w.frozen? ⟨rb,0,none⟩=false)(h1:w.cell? ⟨rb,0,none⟩=some (.slice q r.length c))
  (h3:0<r.length -> ∃b off,q=some ⟨b,off,none⟩/\b<rb/\ByC w b off r) (hc:r.length - n<=c') (hq:∀b off,q=some ⟨b,off,none⟩->n<r.length->q'=some ⟨b,off+n,none⟩) :
  Rd (w.setCell ⟨rb,0,none⟩ (.slice q' (r.length - n) c')) rb (r.drop n):=by
 refine⟨by simpa [World.setCell] using hlt,by simpa using hfz,q',c',?_,by simpa using hc,fun hl=>?_⟩
 ·rw[World.cell?_setCell_same _ _ _ h1];simp
 ·have hlt:n<r.length:=by simp at hl;omega
  obtain⟨b,off,e,hb,hC⟩:=h3 (by omega)
  refine⟨b,off+n,hq b off e hlt,hb,fun i x hx=>?_⟩
  rw[World.cell?_setCell_other _ _ _ _ (by intro e;have:=congrArg Addr.block e;simp at this;omega),Nat.add_assoc]
  exact hC (n+i) x (by rw[<- hx,List.getElem?_drop])
theorem CJ (n:Nat)(r:List UInt8)(rb:Nat)(w:World)(h:Rd w rb r)(hn:r.length<n) :
  Calls Tryz.prog 243 #[.pointer (some ⟨rb,0,none⟩),.int .i64 n] w fun e w'=>e=.panicked AL/\w'=w:=by
 obtain⟨hlt,hfz,q,c,h1,h2,h3⟩:=h
 have hn':decide ((r.length:Int)<(n:Int))=true:=by simp;omega
 go_enter Tryz.func243,Tryz.ntmps243
 go_wp2
 exact⟨rfl,rfl,rfl⟩
theorem wZ (n:Nat)(r:List UInt8)(rb:Nat)(w:World)(h:Rd w rb r)(hn:n<=r.length) :
  Calls Tryz.prog 243 #[.pointer (some ⟨rb,0,none⟩),.int .i64 n] w fun e w'=>e=.returned (.string (Vs.mkB (r.take n)))/\Rd w' rb (r.drop n)/\But (· = rb) w w':=by
 obtain⟨hlt,hfz,q,c,h1,h2,h3⟩:=h
 have hn':decide ((r.length:Int)<(n:Int))=false:=by simp;omega
 by_cases h0:0<r.length
 ·obtain⟨b,off,rfl,hb,hC⟩:=h3 h0
  have cv:=ahn hC 0 n c (by omega)
  rw[Nat.add_zero,Vs.acy,List.drop_zero] at cv
  by_cases h7:c<=n
  ·go_enter Tryz.func243,Tryz.ntmps243
   go_wp2
   go_ret
   exact⟨rfl,Ry hlt hfz h1 h3 (by omega) (fun b' o' e hl=>by first|(cases e;rfl)|omega),(But.refl (· = rb) w).setCell (p:=⟨rb,0,none⟩) (.inl rfl) _⟩
  ·go_enter Tryz.func243,Tryz.ntmps243
   go_wp2
   go_ret
   exact⟨rfl,Ry hlt hfz h1 h3 (by omega) (fun b' o' e hl=>by first|(cases e;rfl)|omega),(But.refl (· = rb) w).setCell (p:=⟨rb,0,none⟩) (.inl rfl) _⟩
 ·have hr:r=[]:=List.eq_nil_of_length_eq_zero (by omega)
  subst hr
  have hn0:n=0:=by simpa using hn
  subst hn0
  have cv:=ahN (w:=w) (q:=q) (l:=[]) c (fun h=>by simp at h)
  simp only [List.length_nil] at cv h1
  have hE:Rd (w.setCell ⟨rb,0,none⟩ (.slice q 0 c)) rb []:=Ry (n:=0) (r:=[]) hlt hfz h1 h3 (by simp) (fun b' o' e hl=>by simp at hl)
  by_cases hc0:c<=0
  ·have hc1:c=0:=by omega
   subst hc1
   cases q <;>
   ·go_enter Tryz.func243,Tryz.ntmps243
    go_wp2
    go_ret
    exact⟨rfl,hE,(But.refl (· = rb) w).setCell (p:=⟨rb,0,none⟩) (.inl rfl) _⟩
  ·cases q <;>
   ·go_enter Tryz.func243,Tryz.ntmps243
    go_wp2
    go_ret
    exact⟨rfl,hE,(But.refl (· = rb) w).setCell (p:=⟨rb,0,none⟩) (.inl rfl) _⟩
theorem Ac (rb:Nat)(w:World)(h:Rd w rb []) :
  Calls Tryz.prog 219 #[.pointer (some ⟨rb,0,none⟩)] w fun e w'=>e=.panicked AL/\w'=w:=by
 have K:=CJ 1 [] rb w h (by simp)
 go_enter Tryz.func219,Tryz.ntmps219
 go_wp2_with (go_at_call 243;refine K.mono ?_;rintro e w2 ⟨rfl,rfl⟩)
 exact⟨rfl,rfl,rfl⟩
theorem xU (x:UInt8)(s:List UInt8)(rb:Nat)(w:World)(h:Rd w rb (x :: s)) :
  Calls Tryz.prog 219 #[.pointer (some ⟨rb,0,none⟩)] w fun e w'=>e=.returned (.int .i64 x.toNat)/\Rd w' rb s/\But (· = rb) w w':=by
 have K:=wZ 1 (x :: s) rb w h (by simp)
 have hx:x.toNat<256:=x.toNat_lt
 have hM:Vs.mkB (List.take 1 (x :: s))=⟨#[x]⟩:=rfl
 rw[hM] at K
 go_enter Tryz.func219,Tryz.ntmps219
 go_wp2_with (go_at_call 243;refine K.mono ?_;rintro e w2 ⟨rfl,h2,hb2⟩)
 go_ret
 exact⟨by show Ending.returned (.int .i64 (wrap64 (x.toNat:Int)))=_;rw[show wrap64 (x.toNat:Int)=x.toNat from by unfold wrap64;omega],h2,hb2⟩
theorem afa {rb c:Nat}{q:Option Addr}{w:World}(h1:w.cell? ⟨rb,0,none⟩=some (.slice q 0 c)) :
  Calls Tryz.prog 175 #[.pointer (some ⟨rb,0,none⟩)] w fun e w'=>e=.returned (.tuple #[])/\w'=w:=by
 go_enter Tryz.func175,Tryz.ntmps175
 go_wp2
 go_end0
 exact⟨rfl,rfl⟩
theorem Tj (r:List UInt8)(rb:Nat)(w:World)(h:Rd w rb r)(D:Option (Vs.Chg×List UInt8))(hD:D=Vs.AY r) :
  Calls Tryz.prog 220 #[.pointer (some ⟨rb,0,none⟩)] w fun e w'=>((D=none/\e=.panicked AL) \/ (∃c s,D=some (c,s)/\e=.returned (.agg #[.string c.k,.string c.v,.bool c.g])/\Rd w' rb s))/\But (· = rb) w w':=by
 have hlt:=h.lt
 have hr1:=h.step (aj (ah w) (.cells #[.string ⟨#[]⟩,.string ⟨#[]⟩,.bool false] 170))
 have hz1:=Zb.new w 170
 cases r with
 | nil=>
  have K:=Ac rb _ hr1
  have E:Hid (D=none):=hD
  clear hD
  go_enter Tryz.func220,Tryz.ntmps220
  go_wp2_with (go_at_call 219;refine K.mono ?_;rintro e w2 ⟨rfl,rfl⟩)
  exact⟨rfl,.inl ⟨E.out,rfl⟩,(But.refl _ w).alloc _⟩
 | cons n s=>
  have K:=xU n s rb _ hr1
  rw[Vs.AY] at hD
  have hn:=n.toNat_lt
  by_cases h7:127<n.toNat
  ·have hm:n.toNat % 128=n.toNat - 128:=by omega
   have h7':decide ((128:Int)<=(n.toNat:Int))=true:=by simp;omega
   have hsub:(n.toNat:Int) - 128=((n.toNat - 128:Nat):Int):=by omega
   rw[hm] at hD
   by_cases h1:s.length<n.toNat - 128
   ·rw[if_pos h1] at hD
    have E:Hid (D=none):=hD
    clear hD hm
    go_enter Tryz.func220,Tryz.ntmps220
    go_wp2_with (first
     | (go_at_call 219;refine K.mono ?_;rintro e w2 ⟨rfl,hr2,hb2⟩)
     | (go_at_call 243;refine (CJ _ s rb _ hr2 h1).mono ?_;rintro e w3 ⟨rfl,rfl⟩))
    exact⟨rfl,.inl ⟨E.out,rfl⟩,((But.refl _ w).alloc _).trans hb2⟩
   ·rw[if_neg h1,if_pos h7] at hD
    have E:Hid (D=some (⟨Vs.mkB (s.take (n.toNat - 128)),ByteArray.empty,true⟩,s.drop (n.toNat - 128))):=hD
    clear hD hm
    go_enter Tryz.func220,Tryz.ntmps220
    go_wp2_with (first
     | (go_at_call 219;refine K.mono ?_;clear K;rintro e w2 ⟨rfl,hr2,hb2⟩;have hs2:=hb2.size;have hz2:=hz1.but hb2 (by simp) (by show ¬_=_;omega);have c20:=hz2.c0;have c21:=hz2.c1;have Bg:=hz2.c2;have z20:=hz2.z0;have z21:=hz2.z1;have z22:=hz2.z2)
     | (go_at_call 243;refine (wZ _ s rb _ hr2 (by omega)).mono ?_;rintro e w3 ⟨rfl,hr3,hb3⟩;have hs3:=hb3.size;have hz3:=hz2.but hb3 (by simp at hs2;omega) (by show ¬_=_;omega);have AV:=hz3.c0;have c31:=hz3.c1;have c32:=hz3.c2;have z30:=hz3.z0;have z31:=hz3.z1;have z32:=hz3.z2))
    exact bodyPost_ret (v:=.agg #[.string (Vs.mkB (s.take (n.toNat - 128))),.string ⟨#[]⟩,.bool true]) (by simp[results,Tryz.results220,go_sem,AV,c31,c32]) rfl ⟨.inr ⟨_,_,E.out,rfl,hr3.but ((((But.refl (fun k=>k=w.heap.size) _).setCell (p:=⟨w.heap.size,0,none⟩) (.inl rfl) _).setCell (p:=⟨w.heap.size,1,none⟩) (.inl rfl) _).setCell (p:=⟨w.heap.size,2,none⟩) (.inl rfl) _) (fun k hk=>by omega)⟩,((((((But.refl _ w).alloc _).trans hb2 |>.trans hb3).setCell (p:=⟨w.heap.size,0,none⟩) (.inr (Nat.le_refl _)) _).setCell (p:=⟨w.heap.size,1,none⟩) (.inr (Nat.le_refl _)) _).setCell (p:=⟨w.heap.size,2,none⟩) (.inr (Nat.le_refl _)) _)⟩
  ·have hm:n.toNat % 128=n.toNat:=by omega
   have h7':decide ((128:Int)<=(n.toNat:Int))=false:=by simp;omega
   rw[hm] at hD
   by_cases h1:s.length<n.toNat
   ·rw[if_pos h1] at hD
    have E:Hid (D=none):=hD
    clear hD hm
    go_enter Tryz.func220,Tryz.ntmps220
    go_wp2_with (first
     | (go_at_call 219;refine K.mono ?_;rintro e w2 ⟨rfl,hr2,hb2⟩)
     | (go_at_call 243;refine (CJ _ s rb _ hr2 h1).mono ?_;rintro e w3 ⟨rfl,rfl⟩))
    exact⟨rfl,.inl ⟨E.out,rfl⟩,((But.refl _ w).alloc _).trans hb2⟩
   ·rw[if_neg h1,if_neg h7] at hD
    generalize hT:s.drop n.toNat=t at hD
    cases t with
    | nil=>
     have E:Hid (D=none):=hD
     clear hD hm
     go_enter Tryz.func220,Tryz.ntmps220
     go_wp2_with (first
      | (go_at_call 219;refine (Ac rb _ hr3).mono ?_;rintro e w4 ⟨rfl,rfl⟩)
      | (go_at_call 243;refine (wZ _ s rb _ hr2 (by omega)).mono ?_;rintro e w3 ⟨rfl,hr3,hb3⟩;rw[hT] at hr3;have hs3:=hb3.size;have hz3:=hz2.but hb3 (by simp at hs2;omega) (by show ¬_=_;omega);have AV:=hz3.c0;have c31:=hz3.c1;have c32:=hz3.c2;have z30:=hz3.z0;have z31:=hz3.z1;have z32:=hz3.z2)
      | (go_at_call 219;refine K.mono ?_;clear K;rintro e w2 ⟨rfl,hr2,hb2⟩;have hs2:=hb2.size;have hz2:=hz1.but hb2 (by simp) (by show ¬_=_;omega);have c20:=hz2.c0;have c21:=hz2.c1;have Bg:=hz2.c2;have z20:=hz2.z0;have z21:=hz2.z1;have z22:=hz2.z2))
     exact⟨rfl,.inl ⟨E.out,rfl⟩,((But.refl _ w).alloc _).trans (hb2.trans hb3)⟩
    | cons q u=>
     have hq:=q.toNat_lt
     by_cases h2:u.length<q.toNat
     ·have E:Hid (D=none):=by show _=_;rw[hD];show (if _ then _ else _)=_;rw[if_pos h2]
      clear hD hm
      go_enter Tryz.func220,Tryz.ntmps220
      go_wp2_with (first
       | (go_at_call 243;refine (CJ _ u rb _ hr4 h2).mono ?_;rintro e w5 ⟨rfl,rfl⟩)
       | (go_at_call 219;refine (xU q u rb _ hr3).mono ?_;rintro e w4 ⟨rfl,hr4,hb4⟩;have hs4:=hb4.size;have hz4:=hz3.but hb4 (by simp at hs2;omega) (by show ¬_=_;omega);have c40:=hz4.c0;have zT:=hz4.c1;have zU:=hz4.c2;have z40:=hz4.z0;have z41:=hz4.z1;have z42:=hz4.z2)
       | (go_at_call 243;refine (wZ _ s rb _ hr2 (by omega)).mono ?_;rintro e w3 ⟨rfl,hr3,hb3⟩;rw[hT] at hr3;have hs3:=hb3.size;have hz3:=hz2.but hb3 (by simp at hs2;omega) (by show ¬_=_;omega);have AV:=hz3.c0;have c31:=hz3.c1;have c32:=hz3.c2;have z30:=hz3.z0;have z31:=hz3.z1;have z32:=hz3.z2)
       | (go_at_call 219;refine K.mono ?_;clear K;rintro e w2 ⟨rfl,hr2,hb2⟩;have hs2:=hb2.size;have hz2:=hz1.but hb2 (by simp) (by show ¬_=_;omega);have c20:=hz2.c0;have c21:=hz2.c1;have Bg:=hz2.c2;have z20:=hz2.z0;have z21:=hz2.z1;have z22:=hz2.z2))
      exact⟨rfl,.inl ⟨E.out,rfl⟩,((But.refl _ w).alloc _).trans (hb2.trans (hb3.trans hb4))⟩
     ·have E:Hid (D=some (⟨Vs.mkB (s.take n.toNat),Vs.mkB (u.take q.toNat),false⟩,u.drop q.toNat)):=by show _=_;rw[hD];show (if _ then _ else _)=_;rw[if_neg h2]
      clear hD hm
      go_enter Tryz.func220,Tryz.ntmps220
      go_wp2_with (first
       | (go_at_call 243;refine (wZ _ u rb _ hr4 (by omega)).mono ?_;rintro e w5 ⟨rfl,hr5,hb5⟩;have hs5:=hb5.size;have hz5:=hz4.but hb5 (by simp at hs2;omega) (by show ¬_=_;omega);have zV:=hz5.c0;have c51:=hz5.c1;have Ah:=hz5.c2;have z50:=hz5.z0;have z51:=hz5.z1;have z52:=hz5.z2)
       | (go_at_call 219;refine (xU q u rb _ hr3).mono ?_;rintro e w4 ⟨rfl,hr4,hb4⟩;have hs4:=hb4.size;have hz4:=hz3.but hb4 (by simp at hs2;omega) (by show ¬_=_;omega);have c40:=hz4.c0;have zT:=hz4.c1;have zU:=hz4.c2;have z40:=hz4.z0;have z41:=hz4.z1;have z42:=hz4.z2)
       | (go_at_call 243;refine (wZ _ s rb _ hr2 (by omega)).mono ?_;rintro e w3 ⟨rfl,hr3,hb3⟩;rw[hT] at hr3;have hs3:=hb3.size;have hz3:=hz2.but hb3 (by simp at hs2;omega) (by show ¬_=_;omega);have AV:=hz3.c0;have c31:=hz3.c1;have c32:=hz3.c2;have z30:=hz3.z0;have z31:=hz3.z1;have z32:=hz3.z2)
       | (go_at_call 219;refine K.mono ?_;clear K;rintro e w2 ⟨rfl,hr2,hb2⟩;have hs2:=hb2.size;have hz2:=hz1.but hb2 (by simp) (by show ¬_=_;omega);have c20:=hz2.c0;have c21:=hz2.c1;have Bg:=hz2.c2;have z20:=hz2.z0;have z21:=hz2.z1;have z22:=hz2.z2))
      exact bodyPost_ret (v:=.agg #[.string (Vs.mkB (s.take n.toNat)),.string (Vs.mkB (u.take q.toNat)),.bool false]) (by simp[results,Tryz.results220,go_sem,zV,c51,Ah]) rfl ⟨.inr ⟨_,_,E.out,rfl,hr5.but ((((But.refl (fun k=>k=w.heap.size) _).setCell (p:=⟨w.heap.size,0,none⟩) (.inl rfl) _).setCell (p:=⟨w.heap.size,1,none⟩) (.inl rfl) _).setCell (p:=⟨w.heap.size,2,none⟩) (.inl rfl) _) (fun k hk=>by omega)⟩,(((((((But.refl _ w).alloc _).trans hb2 |>.trans hb3).trans hb4 |>.trans hb5).setCell (p:=⟨w.heap.size,0,none⟩) (.inr (Nat.le_refl _)) _).setCell (p:=⟨w.heap.size,1,none⟩) (.inr (Nat.le_refl _)) _).setCell (p:=⟨w.heap.size,2,none⟩) (.inr (Nat.le_refl _)) _)⟩
theorem Vw {r:List UInt8}{rb:Nat}{w:World}(h:Rd w rb r)(hd:Vs.AY r=none) :
  Calls Tryz.prog 220 #[.pointer (some ⟨rb,0,none⟩)] w fun e w'=>e=.panicked AL/\But (· = rb) w w':=by
 refine (Tj r rb w h none hd.symm).mono ?_
 rintro e w' ⟨⟨_,h1⟩|⟨_,_,h1,_⟩,hb⟩
 ·exact⟨h1,hb⟩
 ·cases h1
theorem V9 {r s:List UInt8}{rb:Nat}{w:World}{c:Vs.Chg}(h:Rd w rb r)(hd:Vs.AY r=some (c,s)) :
  Calls Tryz.prog 220 #[.pointer (some ⟨rb,0,none⟩)] w fun e w'=>e=.returned (.agg #[.string c.k,.string c.v,.bool c.g])/\Rd w' rb s/\But (· = rb) w w':=by
 refine (Tj r rb w h _ hd.symm).mono ?_
 rintro e w' ⟨⟨h1,_⟩|⟨c',s',h1,h2,h3⟩,hb⟩
 ·cases h1
 ·cases h1;exact⟨h2,h3,hb⟩
def Chs (rb B:Nat)(D:Option (List Vs.Chg×List UInt8))(e:Ending)(w':World):Prop:=
 ((∀l t,D=some (l,t)->Vs.chF l≠0)/\e=.panicked AL) \/ (∃l t,D=some (l,t)/\Vs.chF l=0 /\ ∃v,e=.returned v/\w'.ownsRow B 170 3 v l.length (chV l)/\Rd w' rb t)
theorem OI (n:UInt8)(s:List UInt8)(rb:Nat)(w:World)(h:Rd w rb (n :: s))(D:Option (List Vs.Chg×List UInt8))(hD:D=Vs.JQ [] (n.toNat - 0) s) :
  Calls Tryz.prog 174 #[.pointer (some ⟨rb,0,none⟩)] w fun e w'=>Chs rb w.heap.size D e w'/\But (· = rb) w w':=by
 have hlt:=h.lt
 have K:=xU n s rb w h
 have hn:n.toNat<256:=n.toNat_lt
 replace hD:Hid _:=hD
 go_enter Tryz.func174,Tryz.ntmps174
 go_wp2_with (go_at_call 219;refine K.mono ?_;clear K;rintro e w1 ⟨rfl,hr1,hb1⟩)
 go_loopw [3,6] (fun v i wr=>∃(k:Nat) (o:List Vs.Chg) (r:List UInt8),k<=n.toNat/\i=.int .i64 k/\Hid (D=Vs.JQ o (n.toNat - k) r)/\Hid (o.length=k)/\wr.ownsRow w.heap.size 170 3 v o.length (chV o)/\Rd wr rb r/\But (· = rb) w wr) (fun _ i _=>n.toNat - (intOf i).toNat)
 case atStart=>exact⟨0,[],s,by omega,rfl,hD,rfl,World.ownsRow_nil _ _ _ _,hr1,hb1⟩
 case round=>
  clear hD hr1 hb1
  obtain⟨k,o,r,hk,rfl,hM,hO,hown,hr,hb⟩:=hrel
  have hws:=hb.size
  by_cases hl:k<n.toNat
  ·have hl':decide ((k:Int)<(n.toNat:Int))=true:=by simp;omega
   have hm:n.toNat - k=(n.toNat - (k+1))+1:=by omega
   replace hM:Hid (D=Vs.ae3 o (n.toNat - (k+1)) (Vs.AY r)):=by
    show _=_
    rw[hM.out,hm,Vs.VL]
   cases hd:Vs.AY r with
   | none=>
    rw[hd] at hM
    have K:=Vw hr hd
    have E:Hid (D=none):=hM
    clear hM hd
    go_wp2_with (go_at_call 220;refine K.mono ?_;clear K;rintro e w2 ⟨rfl,hb2⟩)
    exact⟨rfl,.inl ⟨fun l t e=>(by rw[E.out] at e;cases e),rfl⟩,hb.trans hb2⟩
   | some cs=>
    obtain⟨c,t⟩:=cs
    rw[hd] at hM
    have K:=V9 hr hd
    replace hM:Hid (D=Vs.JQ (o ++ [⟨c.k,c.v,c.g⟩]) (n.toNat - (k+1)) t):=hM
    clear hd
    go_wp2_with (first
     | (go_at_call 220;refine K.mono ?_;clear K;rintro e w2 ⟨rfl,hr2,hb2⟩;have hown2:=ah3 hown hb2 (fun k hk=>by show ¬_=_;omega);have hs2:=hb2.size)
     | (at_builtin;refine bf 124 170 3 40 _ Tryz.underlying124 SN rfl (by decide) (by decide) rfl _ _ rfl w.heap.size _ o.length (chV o) rfl (hown2.alloc _) (by simp;omega) w2.heap.size [.string c.k,.string c.v,.bool c.g] rfl rfl (abL rfl) ac9 (by have:=hO.out;omega) ?_;intro v3 w3 hown3 hgrow3;have hlo:=hown2.lt;have hb3:But (fun k=>u3.ownBlock=some k) w2 w3:=((But.refl _ w2).alloc _).grown (row:=u3.ownBlock) hgrow3 (fun k hk=>.inl hk);clear hgrow3)
     | go_in)
    exact⟨⟨k+1,_,t,by omega,by go_num,hM,by show _=_;have:=hO.out;simp;omega,aaR hown3,hr2.but hb3 (fun k hk e=>by have:=(hlo k e).1;omega),(hb.trans hb2).then hb3 (fun k hk e=>by have:=(hlo k e).1;omega)⟩,by simp[intOf];omega⟩
  ·have hl':decide ((k:Int)<(n.toNat:Int))=false:=by simp;omega
   have hM:Hid (D=some (o,r)):=by
    show _=_
    rw[hM.out,show n.toNat - k=0 from by omega,Vs.Vu]
   obtain⟨p',cp',rfl⟩:=aA hown
   have hAt:=(rY hown).2
   have K:=check o p' cp' wr (by have:=hO.out;omega) hAt
   by_cases h6:Vs.chF o=0
   ·rw[h6,aB] at K
    go_wp2_with (go_at_call 137;refine K.mono ?_;clear K;rintro e w2 ⟨rfl,hb2⟩)
    go_ret
    exact⟨.inr ⟨o,r,hM.out,h6,_,rfl,own_below hown hb2,hr.step hb2⟩,hb.step hb2⟩
   ·rw[ay h6] at K
    have E:Hid (∀l t,D=some (l,t)->Vs.chF l≠0):=fun l t e=>by rw[hM.out] at e;cases e;exact h6
    generalize Vs.chF o=z at K
    clear h6 hM
    go_wp2_with (go_at_call 137;refine K.mono ?_;clear K;rintro e w2 ⟨rfl,hb2⟩)
    exact⟨rfl,.inl ⟨E.out,rfl⟩,hb.step hb2⟩
theorem MZ (rb:Nat)(w:World)(h:Rd w rb []) :
  Calls Tryz.prog 174 #[.pointer (some ⟨rb,0,none⟩)] w fun e w'=>e=.panicked AL/\But (· = rb) w w':=by
 have K:=Ac rb w h
 go_enter Tryz.func174,Tryz.ntmps174
 go_wp2_with (go_at_call 219;refine K.mono ?_;clear K;rintro e w1 ⟨rfl,hw⟩)
 exact⟨rfl,rfl,hw ▸ But.refl _ _⟩
def rdG:List UInt8->Option (List Vs.Chg×List UInt8)
 | []=>none
 | n :: s=>match Vs.yI n.toNat s with
  | some (l,t)=>if Vs.chF l=0 then some (l,t) else none
  | none=>none
theorem Rj {b:List UInt8}{rb:Nat}{w:World}(h:Rd w rb b)(hd:rdG b=none) :
  Calls Tryz.prog 174 #[.pointer (some ⟨rb,0,none⟩)] w fun e w'=>e=.panicked AL/\But (· = rb) w w':=by
 cases b with
 | nil=>exact MZ rb w h
 | cons n s=>
  refine (OI n s rb w h _ rfl).mono ?_
  rintro e w' ⟨⟨_,h1⟩|⟨l,t,h1,h2,_⟩,hb⟩
  ·exact⟨h1,hb⟩
  ·exfalso
   unfold Vs.JQ at h1
   rw[rdG] at hd
   rw[Nat.sub_zero] at h1
   cases hn:Vs.yI n.toNat s with
   | none=>rw[hn] at h1;cases h1
   | some lt=>
    obtain⟨l',t'⟩:=lt
    rw[hn] at h1 hd
    simp only [List.nil_append,Option.some.injEq,Prod.mk.injEq] at h1
    obtain⟨rfl,rfl⟩:=h1
    simp[h2] at hd
theorem RS {b:List UInt8}{rb:Nat}{w:World}{l:List Vs.Chg}{t:List UInt8}(h:Rd w rb b)(hd:rdG b=some (l,t)) :
  Calls Tryz.prog 174 #[.pointer (some ⟨rb,0,none⟩)] w fun e w'=>∃p cp,e=.returned (.slice p l.length cp)/\w'.ownsRow w.heap.size 170 3 (.slice p l.length cp) l.length (chV l)/\Rd w' rb t/\But (· = rb) w w':=by
 cases b with
 | nil=>cases hd
 | cons n s=>
  rw[rdG] at hd
  cases hn:Vs.yI n.toNat s with
  | none=>rw[hn] at hd;cases hd
  | some lt=>
   obtain⟨l',t'⟩:=lt
   rw[hn] at hd
   have hc:Vs.chF l'=0:=by
    by_cases g:Vs.chF l'=0
    ·exact g
    ·simp[g] at hd
   simp[hc] at hd
   obtain⟨rfl,rfl⟩:=hd
   refine (OI n s rb w h (some (l',t')) (by rw[Nat.sub_zero];unfold Vs.JQ;rw[hn];rfl)).mono ?_
   rintro e w' ⟨⟨h1,_⟩|⟨l2,t2,h1,h2,v,rfl,hown,hr⟩,hb⟩
   ·exact absurd hc (h1 _ _ rfl)
   ·cases h1
    obtain⟨p,cp,rfl⟩:=aA hown
    exact⟨p,cp,rfl,hown,hr,hb⟩
theorem catch_idle (p q:Addr)(w:World) :
  CallsD Tryz.prog 173 #[.pointer (some p),.pointer (some q)] .returning w fun e u' w'=>e=.returned (.tuple #[])/\u'=.returning/\w'=w:=by
 refine callsD_of_wpS Tryz.func173 rfl fun c₀ cs hu=>?_
 apply wpS_seq
 apply wpS_region
 simp[wpOpsS,go_sem,recoverD,hu,Tryz.ntmps173,Exit.thenS]
 rw[show (#[Value.pointer (some p),Value.pointer (some q)]++((Array.replicate 15 undef).setIfInBounds 3 Value.nilIface).setIfInBounds 0 Value.nilIface)=#[.pointer (some p),.pointer (some q),.nilIface,undef,undef,.nilIface,undef,undef,undef,undef,undef,undef,undef,undef,undef,undef,undef] from rfl]
 refine wpS_of_wp ?_
 go_wp2
 cases c₀
 simp_all [bodyPostS,results,Tryz.results173]
theorem Oq (x:TypeId)(w:World):(Instr.typeAssert DU x 267 true).run Tryz.prog w=.ok (.tuple #[.agg #[],.bool true]) w:=by
 simp[Instr.typeAssert,run_underlying Tryz.underlying267]
theorem Rz (lb eb:Nat)(v0 v1:Value)(w:World)(hp:w.cell? ⟨lb,0,none⟩=some v0)(hq:w.cell? ⟨eb,0,none⟩=some v1)(zp:w.frozen? ⟨lb,0,none⟩=false)(zq:w.frozen? ⟨eb,0,none⟩=false)(hne:lb≠eb) :
  CallsD Tryz.prog 173 #[.pointer (some ⟨lb,0,none⟩),.pointer (some ⟨eb,0,none⟩)] (.panicking AL) w fun e u' w'=>e=.returned (.tuple #[])/\u'=.panicking [{ v:=DU,recovered:=true }]/\w'.cell? ⟨lb,0,none⟩=some (.slice none 0 0)/\w'.cell? ⟨eb,0,none⟩=some (aC 5)/\But (fun k=>k=lb \/ k=eb) w w':=by
 have hl:=World.block_lt_of_cell? _ _ hp
 have he:=World.block_lt_of_cell? _ _ hq
 refine callsD_of_wpS Tryz.func173 rfl fun c₀ cs hu=>?_
 apply wpS_seq
 apply wpS_region
 simp[wpOpsS,go_sem,recoverD,hu,Tryz.ntmps173,Exit.thenS]
 rw[show (#[Value.pointer (some ⟨lb,0,none⟩),Value.pointer (some ⟨eb,0,none⟩)]++((Array.replicate 15 undef).setIfInBounds 3 DU).setIfInBounds 0 DU)=#[.pointer (some ⟨lb,0,none⟩),.pointer (some ⟨eb,0,none⟩),DU,undef,undef,DU,undef,undef,undef,undef,undef,undef,undef,undef,undef,undef,undef] from rfl]
 refine wpS_of_wp ?_
 have hta:=fun (x:TypeId) (W:World)=>Oq x W
 go_wp2
 have b1:((w.setCell ⟨lb,0,none⟩ (.slice none 0 0)).setCell ⟨eb,0,none⟩ (aC 5)).cell? ⟨lb,0,none⟩=some (.slice none 0 0):=by
  rw[World.cell?_setCell_other _ _ _ _ (by intro e;have:=congrArg Addr.block e;simp at this;omega)];exact World.cell?_setCell_same _ _ _ hp
 have b2:((w.setCell ⟨lb,0,none⟩ (.slice none 0 0)).setCell ⟨eb,0,none⟩ (aC 5)).cell? ⟨eb,0,none⟩=some (aC 5):=
  World.cell?_setCell_same _ _ _ (by rw[World.cell?_setCell_other _ _ _ _ (by intro e;have:=congrArg Addr.block e;simp at this;omega)];exact hq)
 have hB:=aj (ah ((w.setCell ⟨lb,0,none⟩ (.slice none 0 0)).setCell ⟨eb,0,none⟩ (aC 5))) (.cells #[] 267)
 cases c₀
 refine⟨rfl,_,rfl,_,by simp[results,Tryz.results173],rfl,rfl,?_,?_,?_⟩
 ·exact (hB.cell (p:=⟨lb,0,none⟩) (by simpa [World.setCell] using hl)).trans b1
 ·exact (hB.cell (p:=⟨eb,0,none⟩) (by simpa [World.setCell] using he)).trans b2
 ·exact (((But.refl _ w).setCell (p:=⟨lb,0,none⟩) (.inl (.inl rfl)) _).setCell (p:=⟨eb,0,none⟩) (.inl (.inr rfl)) _).alloc _
theorem aaV (b:List UInt8):Vs.dec b=match rdG b with|some (l,[])=>some l|_=>none:=by
 cases b with
 | nil=>rfl
 | cons n s=>
  rw[Vs.dec,rdG]
  cases Vs.yI n.toNat s with
  | none=>rfl
  | some lt=>
   obtain⟨l,t⟩:=lt
   cases t with
   | nil=>by_cases h:Vs.chF l=0 <;> simp[h]
   | cons x u=>by_cases h:Vs.chF l=0 <;> simp[h]
structure Dx (w W:World):Prop where
 lt:w.heap.size+2<W.heap.size
 c0:W.cell? ⟨w.heap.size,0,none⟩=some (.slice none 0 0)
 z0:W.frozen? ⟨w.heap.size,0,none⟩=false
 c1:W.cell? ⟨w.heap.size+1,0,none⟩=some .nilIface
 z1:W.frozen? ⟨w.heap.size+1,0,none⟩=false
 below:Below w.heap.size w W
theorem Dx.but {w W W':World}(h:Dx w W)(hb:But (· = w.heap.size+2) W W'):Dx w W':=by
 have:=h.lt
 have:=hb.size
 exact⟨by omega,(hb.cell (p:=⟨w.heap.size,0,none⟩) (by simp;omega) (by show ¬_=_;simp)).trans h.c0,(hb.frozen (p:=⟨w.heap.size,0,none⟩) (by simp;omega) (by show ¬_=_;simp)).trans h.z0,
  (hb.cell (p:=⟨w.heap.size+1,0,none⟩) (by simp;omega) (by show ¬_=_;simp)).trans h.c1,(hb.frozen (p:=⟨w.heap.size+1,0,none⟩) (by simp;omega) (by show ¬_=_;simp)).trans h.z1,
  h.below.trans (hb.under (by omega) (fun k hk=>by show ¬_=_;omega))⟩
theorem XL (b:List UInt8)(p:Option Addr)(cp:Nat)(w:World)(hl:b.length<=cp)(hp:Sl w p b) :
  Dx w (((w.alloc (.cells #[.slice none 0 0] 124)).alloc (.cells #[.nilIface] 26)).alloc (.cells #[.slice p b.length cp] 271)) ∧
  Rd (((w.alloc (.cells #[.slice none 0 0] 124)).alloc (.cells #[.nilIface] 26)).alloc (.cells #[.slice p b.length cp] 271)) (w.heap.size+2) b:=by
 have a0:(w.alloc (.cells #[.slice none 0 0] 124)).cell? ⟨w.heap.size,0,none⟩=some (.slice none 0 0):=by simp
 have a1:(w.alloc (.cells #[.slice none 0 0] 124)).frozen? ⟨w.heap.size,0,none⟩=false:=by simp
 have hB1:=aj (ah w) (.cells #[.slice none 0 0] 124)
 have hs1:(w.alloc (.cells #[.slice none 0 0] 124)).heap.size=w.heap.size+1:=by simp
 generalize w.alloc (.cells #[.slice none 0 0] 124)=w1 at a0 a1 hB1 hs1
 have b0:(w1.alloc (.cells #[.nilIface] 26)).cell? ⟨w1.heap.size,0,none⟩=some .nilIface:=by simp
 have b1:(w1.alloc (.cells #[.nilIface] 26)).frozen? ⟨w1.heap.size,0,none⟩=false:=by simp
 have hB2:=aj (ah w1) (.cells #[.nilIface] 26)
 have hs2:(w1.alloc (.cells #[.nilIface] 26)).heap.size=w1.heap.size+1:=by simp
 generalize w1.alloc (.cells #[.nilIface] 26)=w2 at b0 b1 hB2 hs2
 have c0:(w2.alloc (.cells #[.slice p b.length cp] 271)).cell? ⟨w2.heap.size,0,none⟩=some (.slice p b.length cp):=by simp
 have c1:(w2.alloc (.cells #[.slice p b.length cp] 271)).frozen? ⟨w2.heap.size,0,none⟩=false:=by simp
 have hB3:=aj (ah w2) (.cells #[.slice p b.length cp] 271)
 have hs3:(w2.alloc (.cells #[.slice p b.length cp] 271)).heap.size=w2.heap.size+1:=by simp
 generalize w2.alloc (.cells #[.slice p b.length cp] 271)=w3 at c0 c1 hB3 hs3
 have e2:w2.heap.size=w.heap.size+2:=by omega
 rw[e2] at c0 c1
 rw[hs1] at b0 b1
 have hB23:=ak hB2 hB3
 have hB:Below w.heap.size w w3:=ak hB1 hB23
 refine⟨⟨by omega,(hB23.cell (p:=⟨w.heap.size,0,none⟩) (by simp;omega)).trans a0,(hB23.frozen (p:=⟨w.heap.size,0,none⟩) (by simp;omega)).trans a1,(hB3.cell (p:=⟨w.heap.size+1,0,none⟩) (by simp;omega)).trans b0,(hB3.frozen (p:=⟨w.heap.size+1,0,none⟩) (by simp;omega)).trans b1,hB⟩,⟨by omega,c1,p,cp,c0,hl,fun h=>?_⟩⟩
 obtain⟨bb,off,rfl,hlt,hC⟩:=hp h
 exact⟨bb,off,rfl,by omega,hC.step hlt hB⟩
theorem agA (b:List UInt8)(p:Option Addr)(cp:Nat)(w:World)(hl:b.length<=cp)(hp:Sl w p b)(hd:rdG b=none) :
  Calls Tryz.prog 129 #[.slice p b.length cp] w fun e w'=>e=.returned (.tuple #[.slice none 0 0,aC 5])/\Below w.heap.size w w':=by
 obtain⟨hx,hr⟩:=XL b p cp w hl hp
 have K:=Rj hr hd
 have hmf:∀(fn:Fn) (first cap:Array Value) (w:World),(Instr.makeFunc fn first cap).run Tryz.prog w=.ok (.func fn first cap) w:=fun _ _ _ _=>rfl
 go_enter_defers Tryz.func129,Tryz.ntmps129
 go_wp2_with (go_at_call 174;refine K.mono ?_;clear K;rintro e w2 ⟨rfl,hb2⟩;have hx2:=hx.but hb2)
 refine leaves_cons (f:=173) (args:=#[.pointer (some ⟨w.heap.size,0,none⟩),.pointer (some ⟨w.heap.size+1,0,none⟩)]) (by simp) (by simp[go_sem]) ?_
 refine (Rz w.heap.size (w.heap.size+1) _ _ _ hx2.c0 hx2.c1 hx2.z0 hx2.z1 (by omega)).mono ?_
 rintro e u' w3 ⟨rfl,rfl,c0,c1,hb3⟩
 simp[Leaves,settle,results,Tryz.results129,go_sem,c0,c1]
 exact hx2.below.trans (hb3.under (by have:=hx2.lt;omega) (fun k hk=>by omega))
structure Dy (w W:World)(v:Value):Prop where
 lt:w.heap.size+2<W.heap.size
 c0:W.cell? ⟨w.heap.size,0,none⟩=some v
 z0:W.frozen? ⟨w.heap.size,0,none⟩=false
 c1:W.cell? ⟨w.heap.size+1,0,none⟩=some .nilIface
 z1:W.frozen? ⟨w.heap.size+1,0,none⟩=false
 below:Below w.heap.size w W
theorem Dx.set {w W:World}(h:Dx w W)(v:Value):Dy w (W.setCell ⟨w.heap.size,0,none⟩ v) v:=by
 have:=h.lt
 exact⟨by simpa [World.setCell] using h.lt,World.cell?_setCell_same _ _ _ h.c0,by simpa using h.z0,by rw[World.cell?_setCell_other _ _ _ _ (by intro e;have:=congrArg Addr.block e;simp at this)];exact h.c1,by simpa using h.z1,h.below.setCell (by simp) _⟩
theorem decode_ok (b:List UInt8)(l:List Vs.Chg)(p:Option Addr)(cp:Nat)(w:World)(hl:b.length<=cp)(hp:Sl w p b)(hd:rdG b=some (l,[])) :
  Calls Tryz.prog 129 #[.slice p b.length cp] w fun e w'=>∃q cq,e=.returned (.tuple #[.slice q l.length cq,.nilIface])/\w'.ownsRow w.heap.size 170 3 (.slice q l.length cq) l.length (chV l)/\Below w.heap.size w w':=by
 obtain⟨hx,hr⟩:=XL b p cp w hl hp
 have K:=RS hr hd
 have hmf:∀(fn:Fn) (first cap:Array Value) (w:World),(Instr.makeFunc fn first cap).run Tryz.prog w=.ok (.func fn first cap) w:=fun _ _ _ _=>rfl
 go_enter_defers Tryz.func129,Tryz.ntmps129
 go_wp2_with (first
  | (go_at_call 175;refine (afa hq3).mono ?_;rintro e w4 ⟨rfl,hw4⟩;subst hw4)
  | (go_at_call 174;refine K.mono ?_;clear K;rintro e w2 ⟨pl,cl,rfl,hown,hr2,hb2⟩;have hx2:=hx.but hb2;have d0:=hx2.c0;have d1:=hx2.z0;have d2:=hx2.c1;have d3:=hx2.z1;have hy:=hx2.set (.slice pl l.length cl);have y0:=hy.c0;have y1:=hy.z0;have y2:=hy.c1;have y3:=hy.z1;obtain⟨-,-,qr,cr,hq,-,-⟩:=hr2;have hq3:(w2.setCell ⟨w.heap.size,0,none⟩ (.slice pl l.length cl)).cell? ⟨w.heap.size+2,0,none⟩=some (.slice qr 0 cr):=(by rw[World.cell?_setCell_other _ _ _ _ (by intro e;have:=congrArg Addr.block e;simp at this)];exact hq)))
 have c0:(((w2.setCell ⟨w.heap.size,0,none⟩ (.slice pl l.length cl)).setCell ⟨w.heap.size,0,none⟩ (.slice pl l.length cl)).setCell ⟨w.heap.size+1,0,none⟩ .nilIface).cell? ⟨w.heap.size,0,none⟩=some (.slice pl l.length cl):=by
  rw[World.cell?_setCell_other _ _ _ _ (by intro e;have:=congrArg Addr.block e;simp at this)];exact World.cell?_setCell_same _ _ _ y0
 have c1:(((w2.setCell ⟨w.heap.size,0,none⟩ (.slice pl l.length cl)).setCell ⟨w.heap.size,0,none⟩ (.slice pl l.length cl)).setCell ⟨w.heap.size+1,0,none⟩ .nilIface).cell? ⟨w.heap.size+1,0,none⟩=some .nilIface:=
  World.cell?_setCell_same _ _ _ (by rw[World.cell?_setCell_other _ _ _ _ (by intro e;have:=congrArg Addr.block e;simp at this)];exact y2)
 have hown3:=ownsRow_setCell_below (ownsRow_setCell_below (ownsRow_setCell_below hown (a:=⟨w.heap.size,0,none⟩) (by simp;omega) (.slice pl l.length cl)) (a:=⟨w.heap.size,0,none⟩) (by simp;omega) (.slice pl l.length cl)) (a:=⟨w.heap.size+1,0,none⟩) (by simp) .nilIface
 have hb3:=(hy.below.setCell (p:=⟨w.heap.size,0,none⟩) (by simp) (.slice pl l.length cl)).setCell (p:=⟨w.heap.size+1,0,none⟩) (by simp) .nilIface
 refine leaves_cons (f:=173) (args:=#[.pointer (some ⟨w.heap.size,0,none⟩),.pointer (some ⟨w.heap.size+1,0,none⟩)]) (by simp) (by simp[go_sem]) ?_
 refine (catch_idle ⟨w.heap.size,0,none⟩ ⟨w.heap.size+1,0,none⟩ _).mono ?_
 rintro e u' w3 ⟨rfl,rfl,rfl⟩
 exact⟨.tuple #[.slice pl l.length cl,.nilIface],by simp[results,Tryz.results129,go_sem,c0,c1],pl,cl,rfl,bK (by simp;omega) hown3,hb3⟩
