/- -/
import Derived.Test.YtcjdoeclblhaeaaGreatDoorRAppOne
import Derived.WalkLawsBesides
import Derived.Test.YtcjdoeclblhaeaaGreatDoorRCcB
import Derived.Test.YtcjdoeclblhaeaaGreatDoorRVsMath
import Derived.Defers
import Derived.Recover
import Derived.Stop.Asserts
import Derived.Test.YtcjdoeclblhaeaaGreatDoorRAdBase
import Derived.Test.YtcjdoeclblhaeaaGreatDoorRAdStrMath
import Derived.Deep.DeepCutAuto
set_option maxHeartbeats 4000000
set_option maxRecDepth 30000
namespace Go.Proofs.YtcjdoeclblhaeaaGreatDoor
open Go.RowKit Go.Lib
abbrev haltV:Value:=.iface 274 (.agg #[])
abbrev haltC:List PanicEntry:=[{ v:=haltV,recovered:=false }]
structure Rd (w:World) (rb:Nat) (r:List UInt8):Prop where
 lt:rb<w.heap.size
 fz:w.frozen? ⟨rb,0,none⟩=false
 at_:∃ (q:Option Addr) (c:Nat),w.cell? ⟨rb,0,none⟩=some (.slice q r.length c)/\r.length<=c/\(0<r.length -> ∃ b off,q=some ⟨b,off,none⟩/\b<rb/\ByC w b off r)
theorem Rd.but {w w':World} {rb:Nat} {r:List UInt8} {F:Nat->Prop} (h:Rd w rb r) (hb:But F w w') (hF:∀ k,k<=rb -> ¬ F k):Rd w' rb r:=by
 obtain⟨q,c,h1,h2,h3⟩:=h.at_
 refine⟨Nat.lt_of_lt_of_le h.lt hb.size,(hb.frozen (p:=⟨rb,0,none⟩) h.lt (hF _ (Nat.le_refl _))).trans h.fz,q,c,(hb.cell (p:=⟨rb,0,none⟩) h.lt (hF _ (Nat.le_refl _))).trans h1,h2,fun hl=>?_⟩
 obtain⟨b,off,rfl,hlt,hc⟩:=h3 hl
 exact⟨b,off,rfl,hlt,fun i x hx=>(hb.cell (p:=⟨b,off+i,none⟩) (Nat.lt_trans hlt h.lt) (hF _ (Nat.le_of_lt hlt))).trans (hc i x hx)⟩
theorem Rd.step {w w':World} {rb:Nat} {r:List UInt8} (h:Rd w rb r) (hb:Below w.heap.size w w'):Rd w' rb r:=h.but (F:=fun _=>False) (.below hb) (fun _ _=>id)
theorem rd_set {w:World} {rb:Nat} {r:List UInt8} {n c c':Nat} {q q':Option Addr} (hlt:rb<w.heap.size) (hfz:w.frozen? ⟨rb,0,none⟩=false) (h1:w.cell? ⟨rb,0,none⟩=some (.slice q r.length c))
  (h3:0<r.length -> ∃ b off,q=some ⟨b,off,none⟩/\b<rb/\ByC w b off r) (hc:r.length - n<=c') (hq:∀ b off,q=some ⟨b,off,none⟩->n<r.length->q'=some ⟨b,off+n,none⟩) :
  Rd (w.setCell ⟨rb,0,none⟩ (.slice q' (r.length - n) c')) rb (r.drop n):=by
 refine⟨by simpa [World.setCell] using hlt,by simpa using hfz,q',c',?_,by simpa using hc,fun hl=>?_⟩
 ·rw[World.cell?_setCell_same _ _ _ h1];simp
 ·have hlt:n<r.length:=by simp at hl;omega
  obtain⟨b,off,e,hb,hC⟩:=h3 (by omega)
  refine⟨b,off+n,hq b off e hlt,hb,fun i x hx=>?_⟩
  rw[World.cell?_setCell_other _ _ _ _ (by intro e;have:=congrArg Addr.block e;simp at this;omega),Nat.add_assoc]
  exact hC (n+i) x (by rw[<- hx,List.getElem?_drop])
theorem text_no (n:Nat) (r:List UInt8) (rb:Nat) (w:World) (h:Rd w rb r) (hn:r.length<n) :
  Calls Tryz.prog 279 #[.pointer (some ⟨rb,0,none⟩),.int .i64 n] w fun e w'=>e=.panicked haltC/\w'=w:=by
 obtain⟨hlt,hfz,q,c,h1,h2,h3⟩:=h
 have hn':decide ((r.length:Int)<(n:Int))=true:=by simp;omega
 go_enter Tryz.func279,Tryz.ntmps279
 go_wp2
 exact⟨rfl,rfl,rfl⟩
theorem text_ok (n:Nat) (r:List UInt8) (rb:Nat) (w:World) (h:Rd w rb r) (hn:n<=r.length) :
  Calls Tryz.prog 279 #[.pointer (some ⟨rb,0,none⟩),.int .i64 n] w fun e w'=>e=.returned (.string (Vs.mkB (r.take n)))/\Rd w' rb (r.drop n)/\But (· = rb) w w':=by
 obtain⟨hlt,hfz,q,c,h1,h2,h3⟩:=h
 have hn':decide ((r.length:Int)<(n:Int))=false:=by simp;omega
 by_cases h0:0<r.length
 ·obtain⟨b,off,rfl,hb,hC⟩:=h3 h0
  have cv:=byCv hC 0 n c (by omega)
  rw[Nat.add_zero,Vs.cutB,List.drop_zero] at cv
  by_cases h7:c<=n
  ·go_enter Tryz.func279,Tryz.ntmps279
   go_wp2
   go_ret
   exact⟨rfl,rd_set hlt hfz h1 h3 (by omega) (fun b' o' e hl=>by first|(cases e;rfl)|omega),(But.refl (· = rb) w).setCell (p:=⟨rb,0,none⟩) (.inl rfl) _⟩
  ·go_enter Tryz.func279,Tryz.ntmps279
   go_wp2
   go_ret
   exact⟨rfl,rd_set hlt hfz h1 h3 (by omega) (fun b' o' e hl=>by first|(cases e;rfl)|omega),(But.refl (· = rb) w).setCell (p:=⟨rb,0,none⟩) (.inl rfl) _⟩
 ·have hr:r=[]:=List.eq_nil_of_length_eq_zero (by omega)
  subst hr
  have hn0:n=0:=by simpa using hn
  subst hn0
  have cv:=byStr (w:=w) (q:=q) (l:=[]) c (fun h=>by simp at h)
  simp only [List.length_nil] at cv h1
  have hE:Rd (w.setCell ⟨rb,0,none⟩ (.slice q 0 c)) rb []:=rd_set (n:=0) (r:=[]) hlt hfz h1 h3 (by simp) (fun b' o' e hl=>by simp at hl)
  by_cases hc0:c<=0
  ·have hc1:c=0:=by omega
   subst hc1
   cases q <;>
   ·go_enter Tryz.func279,Tryz.ntmps279
    go_wp2
    go_ret
    exact⟨rfl,hE,(But.refl (· = rb) w).setCell (p:=⟨rb,0,none⟩) (.inl rfl) _⟩
  ·cases q <;>
   ·go_enter Tryz.func279,Tryz.ntmps279
    go_wp2
    go_ret
    exact⟨rfl,hE,(But.refl (· = rb) w).setCell (p:=⟨rb,0,none⟩) (.inl rfl) _⟩
theorem number_no (rb:Nat) (w:World) (h:Rd w rb []) :
  Calls Tryz.prog 241 #[.pointer (some ⟨rb,0,none⟩)] w fun e w'=>e=.panicked haltC/\w'=w:=by
 have K:=text_no 1 [] rb w h (by simp)
 go_enter Tryz.func241,Tryz.ntmps241
 go_wp2_with (go_at_call 279;refine K.mono ?_;rintro e w2 ⟨rfl,rfl⟩)
 exact⟨rfl,rfl,rfl⟩
theorem number_ok (x:UInt8) (s:List UInt8) (rb:Nat) (w:World) (h:Rd w rb (x :: s)) :
  Calls Tryz.prog 241 #[.pointer (some ⟨rb,0,none⟩)] w fun e w'=>e=.returned (.int .i64 x.toNat)/\Rd w' rb s/\But (· = rb) w w':=by
 have K:=text_ok 1 (x :: s) rb w h (by simp)
 have hx:x.toNat<256:=x.toNat_lt
 have hM:Vs.mkB (List.take 1 (x :: s))=⟨#[x]⟩:=rfl
 rw[hM] at K
 go_enter Tryz.func241,Tryz.ntmps241
 go_wp2_with (go_at_call 279;refine K.mono ?_;rintro e w2 ⟨rfl,h2,hb2⟩)
 go_ret
 exact⟨by show Ending.returned (.int .i64 (wrap64 (x.toNat:Int)))=_;rw[show wrap64 (x.toNat:Int)=x.toNat from by unfold wrap64;omega],h2,hb2⟩
theorem end_ok {rb c:Nat} {q:Option Addr} {w:World} (h1:w.cell? ⟨rb,0,none⟩=some (.slice q 0 c)) :
  Calls Tryz.prog 197 #[.pointer (some ⟨rb,0,none⟩)] w fun e w'=>e=.returned (.tuple #[])/\w'=w:=by
 go_enter Tryz.func197,Tryz.ntmps197
 go_wp2
 go_end0
 exact⟨rfl,rfl⟩
end Go.Proofs.YtcjdoeclblhaeaaGreatDoor
namespace Go.Proofs.YtcjdoeclblhaeaaGreatDoor
open Go.RowKit Go.Lib
theorem change_ (r:List UInt8) (rb:Nat) (w:World) (h:Rd w rb r) (D:Option (Vs.Chg×List UInt8)) (hD:D=Vs.decC r) :
  Calls Tryz.prog 242 #[.pointer (some ⟨rb,0,none⟩)] w fun e w'=>((D=none/\e=.panicked haltC) \/ (∃ c s,D=some (c,s)/\e=.returned (.agg #[.string c.k,.string c.v,.bool c.g])/\Rd w' rb s))/\But (· = rb) w w':=by
 have hlt:=h.lt
 have hr1:=h.step (below_al (below_self w) (.cells #[.string ⟨#[]⟩,.string ⟨#[]⟩,.bool false] 215))
 have hz1:=Zb.new w 215
 cases r with
 | nil=>
  have K:=number_no rb _ hr1
  have E:Hid (D=none):=hD
  clear hD
  go_enter Tryz.func242,Tryz.ntmps242
  go_wp2_with (go_at_call 241;refine K.mono ?_;rintro e w2 ⟨rfl,rfl⟩)
  exact⟨rfl,.inl ⟨E.out,rfl⟩,(But.refl _ w).alloc _⟩
 | cons n s=>
  have K:=number_ok n s rb _ hr1
  rw[Vs.decC] at hD
  have hn:=n.toNat_lt
  by_cases h7:127<n.toNat
  ·have hm:n.toNat % 128=n.toNat - 128:=by omega
   have h7':decide ((128:Int)<=(n.toNat:Int))=true:=by simp;omega
   have hsub:(n.toNat:Int) - 128=((n.toNat - 128:Nat):Int):=by omega
   rw[hm] at hD
   by_cases h1:s.length<n.toNat - 128
   ·rw[if_pos h1] at hD
    have E:Hid (D=none):=hD
    clear hD hm
    go_enter Tryz.func242,Tryz.ntmps242
    go_wp2_with (first
     | (go_at_call 241;refine K.mono ?_;rintro e w2 ⟨rfl,hr2,hb2⟩)
     | (go_at_call 279;refine (text_no _ s rb _ hr2 h1).mono ?_;rintro e w3 ⟨rfl,rfl⟩))
    exact⟨rfl,.inl ⟨E.out,rfl⟩,((But.refl _ w).alloc _).trans hb2⟩
   ·rw[if_neg h1,if_pos h7] at hD
    have E:Hid (D=some (⟨Vs.mkB (s.take (n.toNat - 128)),ByteArray.empty,true⟩,s.drop (n.toNat - 128))):=hD
    clear hD hm
    go_enter Tryz.func242,Tryz.ntmps242
    go_wp2_with (first
     | (go_at_call 241;refine K.mono ?_;clear K;rintro e w2 ⟨rfl,hr2,hb2⟩;have hs2:=hb2.size;have hz2:=hz1.but hb2 (by simp) (by show ¬ _=_;omega);have c20:=hz2.c0;have c21:=hz2.c1;have c22:=hz2.c2;have z20:=hz2.z0;have z21:=hz2.z1;have z22:=hz2.z2)
     | (go_at_call 279;refine (text_ok _ s rb _ hr2 (by omega)).mono ?_;rintro e w3 ⟨rfl,hr3,hb3⟩;have hs3:=hb3.size;have hz3:=hz2.but hb3 (by simp at hs2;omega) (by show ¬ _=_;omega);have c30:=hz3.c0;have c31:=hz3.c1;have c32:=hz3.c2;have z30:=hz3.z0;have z31:=hz3.z1;have z32:=hz3.z2))
    exact bodyPost_ret (v:=.agg #[.string (Vs.mkB (s.take (n.toNat - 128))),.string ⟨#[]⟩,.bool true]) (by simp[results,Tryz.results242,go_sem,c30,c31,c32]) rfl ⟨.inr ⟨_,_,E.out,rfl,hr3.but ((((But.refl (fun k=>k=w.heap.size) _).setCell (p:=⟨w.heap.size,0,none⟩) (.inl rfl) _).setCell (p:=⟨w.heap.size,1,none⟩) (.inl rfl) _).setCell (p:=⟨w.heap.size,2,none⟩) (.inl rfl) _) (fun k hk=>by omega)⟩,((((((But.refl _ w).alloc _).trans hb2 |>.trans hb3).setCell (p:=⟨w.heap.size,0,none⟩) (.inr (Nat.le_refl _)) _).setCell (p:=⟨w.heap.size,1,none⟩) (.inr (Nat.le_refl _)) _).setCell (p:=⟨w.heap.size,2,none⟩) (.inr (Nat.le_refl _)) _)⟩
  ·have hm:n.toNat % 128=n.toNat:=by omega
   have h7':decide ((128:Int)<=(n.toNat:Int))=false:=by simp;omega
   rw[hm] at hD
   by_cases h1:s.length<n.toNat
   ·rw[if_pos h1] at hD
    have E:Hid (D=none):=hD
    clear hD hm
    go_enter Tryz.func242,Tryz.ntmps242
    go_wp2_with (first
     | (go_at_call 241;refine K.mono ?_;rintro e w2 ⟨rfl,hr2,hb2⟩)
     | (go_at_call 279;refine (text_no _ s rb _ hr2 h1).mono ?_;rintro e w3 ⟨rfl,rfl⟩))
    exact⟨rfl,.inl ⟨E.out,rfl⟩,((But.refl _ w).alloc _).trans hb2⟩
   ·rw[if_neg h1,if_neg h7] at hD
    generalize hT:s.drop n.toNat=t at hD
    cases t with
    | nil=>
     have E:Hid (D=none):=hD
     clear hD hm
     go_enter Tryz.func242,Tryz.ntmps242
     go_wp2_with (first
      | (go_at_call 241;refine (number_no rb _ hr3).mono ?_;rintro e w4 ⟨rfl,rfl⟩)
      | (go_at_call 279;refine (text_ok _ s rb _ hr2 (by omega)).mono ?_;rintro e w3 ⟨rfl,hr3,hb3⟩;rw[hT] at hr3;have hs3:=hb3.size;have hz3:=hz2.but hb3 (by simp at hs2;omega) (by show ¬ _=_;omega);have c30:=hz3.c0;have c31:=hz3.c1;have c32:=hz3.c2;have z30:=hz3.z0;have z31:=hz3.z1;have z32:=hz3.z2)
      | (go_at_call 241;refine K.mono ?_;clear K;rintro e w2 ⟨rfl,hr2,hb2⟩;have hs2:=hb2.size;have hz2:=hz1.but hb2 (by simp) (by show ¬ _=_;omega);have c20:=hz2.c0;have c21:=hz2.c1;have c22:=hz2.c2;have z20:=hz2.z0;have z21:=hz2.z1;have z22:=hz2.z2))
     exact⟨rfl,.inl ⟨E.out,rfl⟩,((But.refl _ w).alloc _).trans (hb2.trans hb3)⟩
    | cons q u=>
     have hq:=q.toNat_lt
     by_cases h2:u.length<q.toNat
     ·have E:Hid (D=none):=by show _=_;rw[hD];show (if _ then _ else _)=_;rw[if_pos h2]
      clear hD hm
      go_enter Tryz.func242,Tryz.ntmps242
      go_wp2_with (first
       | (go_at_call 279;refine (text_no _ u rb _ hr4 h2).mono ?_;rintro e w5 ⟨rfl,rfl⟩)
       | (go_at_call 241;refine (number_ok q u rb _ hr3).mono ?_;rintro e w4 ⟨rfl,hr4,hb4⟩;have hs4:=hb4.size;have hz4:=hz3.but hb4 (by simp at hs2;omega) (by show ¬ _=_;omega);have c40:=hz4.c0;have c41:=hz4.c1;have c42:=hz4.c2;have z40:=hz4.z0;have z41:=hz4.z1;have z42:=hz4.z2)
       | (go_at_call 279;refine (text_ok _ s rb _ hr2 (by omega)).mono ?_;rintro e w3 ⟨rfl,hr3,hb3⟩;rw[hT] at hr3;have hs3:=hb3.size;have hz3:=hz2.but hb3 (by simp at hs2;omega) (by show ¬ _=_;omega);have c30:=hz3.c0;have c31:=hz3.c1;have c32:=hz3.c2;have z30:=hz3.z0;have z31:=hz3.z1;have z32:=hz3.z2)
       | (go_at_call 241;refine K.mono ?_;clear K;rintro e w2 ⟨rfl,hr2,hb2⟩;have hs2:=hb2.size;have hz2:=hz1.but hb2 (by simp) (by show ¬ _=_;omega);have c20:=hz2.c0;have c21:=hz2.c1;have c22:=hz2.c2;have z20:=hz2.z0;have z21:=hz2.z1;have z22:=hz2.z2))
      exact⟨rfl,.inl ⟨E.out,rfl⟩,((But.refl _ w).alloc _).trans (hb2.trans (hb3.trans hb4))⟩
     ·have E:Hid (D=some (⟨Vs.mkB (s.take n.toNat),Vs.mkB (u.take q.toNat),false⟩,u.drop q.toNat)):=by show _=_;rw[hD];show (if _ then _ else _)=_;rw[if_neg h2]
      clear hD hm
      go_enter Tryz.func242,Tryz.ntmps242
      go_wp2_with (first
       | (go_at_call 279;refine (text_ok _ u rb _ hr4 (by omega)).mono ?_;rintro e w5 ⟨rfl,hr5,hb5⟩;have hs5:=hb5.size;have hz5:=hz4.but hb5 (by simp at hs2;omega) (by show ¬ _=_;omega);have c50:=hz5.c0;have c51:=hz5.c1;have c52:=hz5.c2;have z50:=hz5.z0;have z51:=hz5.z1;have z52:=hz5.z2)
       | (go_at_call 241;refine (number_ok q u rb _ hr3).mono ?_;rintro e w4 ⟨rfl,hr4,hb4⟩;have hs4:=hb4.size;have hz4:=hz3.but hb4 (by simp at hs2;omega) (by show ¬ _=_;omega);have c40:=hz4.c0;have c41:=hz4.c1;have c42:=hz4.c2;have z40:=hz4.z0;have z41:=hz4.z1;have z42:=hz4.z2)
       | (go_at_call 279;refine (text_ok _ s rb _ hr2 (by omega)).mono ?_;rintro e w3 ⟨rfl,hr3,hb3⟩;rw[hT] at hr3;have hs3:=hb3.size;have hz3:=hz2.but hb3 (by simp at hs2;omega) (by show ¬ _=_;omega);have c30:=hz3.c0;have c31:=hz3.c1;have c32:=hz3.c2;have z30:=hz3.z0;have z31:=hz3.z1;have z32:=hz3.z2)
       | (go_at_call 241;refine K.mono ?_;clear K;rintro e w2 ⟨rfl,hr2,hb2⟩;have hs2:=hb2.size;have hz2:=hz1.but hb2 (by simp) (by show ¬ _=_;omega);have c20:=hz2.c0;have c21:=hz2.c1;have c22:=hz2.c2;have z20:=hz2.z0;have z21:=hz2.z1;have z22:=hz2.z2))
      exact bodyPost_ret (v:=.agg #[.string (Vs.mkB (s.take n.toNat)),.string (Vs.mkB (u.take q.toNat)),.bool false]) (by simp[results,Tryz.results242,go_sem,c50,c51,c52]) rfl ⟨.inr ⟨_,_,E.out,rfl,hr5.but ((((But.refl (fun k=>k=w.heap.size) _).setCell (p:=⟨w.heap.size,0,none⟩) (.inl rfl) _).setCell (p:=⟨w.heap.size,1,none⟩) (.inl rfl) _).setCell (p:=⟨w.heap.size,2,none⟩) (.inl rfl) _) (fun k hk=>by omega)⟩,(((((((But.refl _ w).alloc _).trans hb2 |>.trans hb3).trans hb4 |>.trans hb5).setCell (p:=⟨w.heap.size,0,none⟩) (.inr (Nat.le_refl _)) _).setCell (p:=⟨w.heap.size,1,none⟩) (.inr (Nat.le_refl _)) _).setCell (p:=⟨w.heap.size,2,none⟩) (.inr (Nat.le_refl _)) _)⟩
theorem change_no {r:List UInt8} {rb:Nat} {w:World} (h:Rd w rb r) (hd:Vs.decC r=none) :
  Calls Tryz.prog 242 #[.pointer (some ⟨rb,0,none⟩)] w fun e w'=>e=.panicked haltC/\But (· = rb) w w':=by
 refine (change_ r rb w h none hd.symm).mono ?_
 rintro e w' ⟨⟨_,h1⟩|⟨_,_,h1,_⟩,hb⟩
 ·exact⟨h1,hb⟩
 ·cases h1
theorem change_ok {r s:List UInt8} {rb:Nat} {w:World} {c:Vs.Chg} (h:Rd w rb r) (hd:Vs.decC r=some (c,s)) :
  Calls Tryz.prog 242 #[.pointer (some ⟨rb,0,none⟩)] w fun e w'=>e=.returned (.agg #[.string c.k,.string c.v,.bool c.g])/\Rd w' rb s/\But (· = rb) w w':=by
 refine (change_ r rb w h _ hd.symm).mono ?_
 rintro e w' ⟨⟨h1,_⟩|⟨c',s',h1,h2,h3⟩,hb⟩
 ·cases h1
 ·cases h1;exact⟨h2,h3,hb⟩
end Go.Proofs.YtcjdoeclblhaeaaGreatDoor
namespace Go.Proofs.YtcjdoeclblhaeaaGreatDoor
open Go.RowKit Go.Lib
def Chs (rb B:Nat) (D:Option (List Vs.Chg×List UInt8)) (e:Ending) (w':World):Prop:=
 ((∀ l t,D=some (l,t)->Vs.chF l≠0)/\e=.panicked haltC) \/ (∃ l t,D=some (l,t)/\Vs.chF l=0 /\ ∃ v,e=.returned v/\w'.ownsRow B 215 3 v l.length (chV l)/\Rd w' rb t)
theorem changes_ (n:UInt8) (s:List UInt8) (rb:Nat) (w:World) (h:Rd w rb (n :: s)) (D:Option (List Vs.Chg×List UInt8)) (hD:D=Vs.decG [] (n.toNat - 0) s) :
  Calls Tryz.prog 196 #[.pointer (some ⟨rb,0,none⟩)] w fun e w'=>Chs rb w.heap.size D e w'/\But (· = rb) w w':=by
 have hlt:=h.lt
 have K:=number_ok n s rb w h
 have hn:n.toNat<256:=n.toNat_lt
 replace hD:Hid _:=hD
 go_enter Tryz.func196,Tryz.ntmps196
 go_wp2_with (go_at_call 241;refine K.mono ?_;clear K;rintro e w1 ⟨rfl,hr1,hb1⟩)
 go_loopw [3,6] (fun v i wr=>∃ (k:Nat) (o:List Vs.Chg) (r:List UInt8),k<=n.toNat/\i=.int .i64 k/\Hid (D=Vs.decG o (n.toNat - k) r)/\Hid (o.length=k)/\wr.ownsRow w.heap.size 215 3 v o.length (chV o)/\Rd wr rb r/\But (· = rb) w wr) (fun _ i _=>n.toNat - (intOf i).toNat)
 case atStart=>exact⟨0,[],s,by omega,rfl,hD,rfl,World.ownsRow_nil _ _ _ _,hr1,hb1⟩
 case round=>
  clear hD hr1 hb1
  obtain⟨k,o,r,hk,rfl,hM,hO,hown,hr,hb⟩:=hrel
  have hws:=hb.size
  by_cases hl:k<n.toNat
  ·have hl':decide ((k:Int)<(n.toNat:Int))=true:=by simp;omega
   have hm:n.toNat - k=(n.toNat - (k+1))+1:=by omega
   replace hM:Hid (D=Vs.decS o (n.toNat - (k+1)) (Vs.decC r)):=by
    show _=_
    rw[hM.out,hm,Vs.decG_step]
   cases hd:Vs.decC r with
   | none=>
    rw[hd] at hM
    have K:=change_no hr hd
    have E:Hid (D=none):=hM
    clear hM hd
    go_wp2_with (go_at_call 242;refine K.mono ?_;clear K;rintro e w2 ⟨rfl,hb2⟩)
    exact⟨rfl,.inl ⟨fun l t e=>(by rw[E.out] at e;cases e),rfl⟩,hb.trans hb2⟩
   | some cs=>
    obtain⟨c,t⟩:=cs
    rw[hd] at hM
    have K:=change_ok hr hd
    replace hM:Hid (D=Vs.decG (o ++ [⟨c.k,c.v,c.g⟩]) (n.toNat - (k+1)) t):=hM
    clear hd
    go_wp2_with (first
     | (go_at_call 242;refine K.mono ?_;clear K;rintro e w2 ⟨rfl,hr2,hb2⟩;have hown2:=rowb hown hb2 (fun k hk=>by show ¬ _=_;omega);have hs2:=hb2.size)
     | (at_builtin;refine wpList_append_one 176 215 3 40 _ Tryz.underlying176 infoChg rfl (by decide) (by decide) rfl _ _ rfl w.heap.size _ o.length (chV o) rfl (hown2.alloc _) (by simp;omega) w2.heap.size [.string c.k,.string c.v,.bool c.g] rfl rfl (chg_new rfl) chg_one (by have:=hO.out;omega) ?_;intro v3 w3 hown3 hgrow3;have hlo:=hown2.lt;have hb3:But (fun k=>u3.ownBlock=some k) w2 w3:=((But.refl _ w2).alloc _).grown (row:=u3.ownBlock) hgrow3 (fun k hk=>.inl hk);clear hgrow3)
     | go_in)
    exact⟨⟨k+1,_,t,by omega,by go_num,hM,by show _=_;have:=hO.out;simp;omega,own_chg hown3,hr2.but hb3 (fun k hk e=>by have:=(hlo k e).1;omega),(hb.trans hb2).then hb3 (fun k hk e=>by have:=(hlo k e).1;omega)⟩,by simp[intOf];omega⟩
  ·have hl':decide ((k:Int)<(n.toNat:Int))=false:=by simp;omega
   have hM:Hid (D=some (o,r)):=by
    show _=_
    rw[hM.out,show n.toNat - k=0 from by omega,Vs.decG_zero]
   obtain⟨p',cp',rfl⟩:=own_form hown
   have hAt:=(chAt_own hown).2
   have K:=check o p' cp' wr (by have:=hO.out;omega) hAt
   by_cases h6:Vs.chF o=0
   ·rw[h6,ev_0] at K
    go_wp2_with (go_at_call 191;refine K.mono ?_;clear K;rintro e w2 ⟨rfl,hb2⟩)
    go_ret
    exact⟨.inr ⟨o,r,hM.out,h6,_,rfl,own_below hown hb2,hr.step hb2⟩,hb.step hb2⟩
   ·rw[ev_ne h6] at K
    have E:Hid (∀ l t,D=some (l,t)->Vs.chF l≠0):=fun l t e=>by rw[hM.out] at e;cases e;exact h6
    generalize Vs.chF o=z at K
    clear h6 hM
    go_wp2_with (go_at_call 191;refine K.mono ?_;clear K;rintro e w2 ⟨rfl,hb2⟩)
    exact⟨rfl,.inl ⟨E.out,rfl⟩,hb.step hb2⟩
theorem changes_none (rb:Nat) (w:World) (h:Rd w rb []) :
  Calls Tryz.prog 196 #[.pointer (some ⟨rb,0,none⟩)] w fun e w'=>e=.panicked haltC/\But (· = rb) w w':=by
 have K:=number_no rb w h
 go_enter Tryz.func196,Tryz.ntmps196
 go_wp2_with (go_at_call 241;refine K.mono ?_;clear K;rintro e w1 ⟨rfl,hw⟩)
 exact⟨rfl,rfl,hw ▸ But.refl _ _⟩
def rdG:List UInt8->Option (List Vs.Chg×List UInt8)
 | []=>none
 | n :: s=>match Vs.decN n.toNat s with
  | some (l,t)=>if Vs.chF l=0 then some (l,t) else none
  | none=>none
theorem changes_no {b:List UInt8} {rb:Nat} {w:World} (h:Rd w rb b) (hd:rdG b=none) :
  Calls Tryz.prog 196 #[.pointer (some ⟨rb,0,none⟩)] w fun e w'=>e=.panicked haltC/\But (· = rb) w w':=by
 cases b with
 | nil=>exact changes_none rb w h
 | cons n s=>
  refine (changes_ n s rb w h _ rfl).mono ?_
  rintro e w' ⟨⟨_,h1⟩|⟨l,t,h1,h2,_⟩,hb⟩
  ·exact⟨h1,hb⟩
  ·exfalso
   unfold Vs.decG at h1
   rw[rdG] at hd
   rw[Nat.sub_zero] at h1
   cases hn:Vs.decN n.toNat s with
   | none=>rw[hn] at h1;cases h1
   | some lt=>
    obtain⟨l',t'⟩:=lt
    rw[hn] at h1 hd
    simp only [List.nil_append,Option.some.injEq,Prod.mk.injEq] at h1
    obtain⟨rfl,rfl⟩:=h1
    simp[h2] at hd
theorem changes_ok {b:List UInt8} {rb:Nat} {w:World} {l:List Vs.Chg} {t:List UInt8} (h:Rd w rb b) (hd:rdG b=some (l,t)) :
  Calls Tryz.prog 196 #[.pointer (some ⟨rb,0,none⟩)] w fun e w'=>∃ p cp,e=.returned (.slice p l.length cp)/\w'.ownsRow w.heap.size 215 3 (.slice p l.length cp) l.length (chV l)/\Rd w' rb t/\But (· = rb) w w':=by
 cases b with
 | nil=>cases hd
 | cons n s=>
  rw[rdG] at hd
  cases hn:Vs.decN n.toNat s with
  | none=>rw[hn] at hd;cases hd
  | some lt=>
   obtain⟨l',t'⟩:=lt
   rw[hn] at hd
   have hc:Vs.chF l'=0:=by
    by_cases g:Vs.chF l'=0
    ·exact g
    ·simp[g] at hd
   simp[hc] at hd
   obtain⟨rfl,rfl⟩:=hd
   refine (changes_ n s rb w h (some (l',t')) (by rw[Nat.sub_zero];unfold Vs.decG;rw[hn];rfl)).mono ?_
   rintro e w' ⟨⟨h1,_⟩|⟨l2,t2,h1,h2,v,rfl,hown,hr⟩,hb⟩
   ·exact absurd hc (h1 _ _ rfl)
   ·cases h1
    obtain⟨p,cp,rfl⟩:=own_form hown
    exact⟨p,cp,rfl,hown,hr,hb⟩
end Go.Proofs.YtcjdoeclblhaeaaGreatDoor
namespace Go.Proofs.YtcjdoeclblhaeaaGreatDoor
open Go.RowKit Go.Lib
theorem catch_idle (p q:Addr) (w:World) :
  CallsD Tryz.prog 195 #[.pointer (some p),.pointer (some q)] .returning w fun e u' w'=>e=.returned (.tuple #[])/\u'=.returning/\w'=w:=by
 refine callsD_of_wpS Tryz.func195 rfl fun c₀ cs hu=>?_
 apply wpS_seq
 apply wpS_region
 simp[wpOpsS,go_sem,recoverD,hu,Tryz.ntmps195,Exit.thenS]
 rw[show (#[Value.pointer (some p),Value.pointer (some q)]++((Array.replicate 15 undef).setIfInBounds 3 Value.nilIface).setIfInBounds 0 Value.nilIface)=#[.pointer (some p),.pointer (some q),.nilIface,undef,undef,.nilIface,undef,undef,undef,undef,undef,undef,undef,undef,undef,undef,undef] from rfl]
 refine wpS_of_wp ?_
 go_wp2
 cases c₀
 simp_all [bodyPostS,results,Tryz.results195]
theorem assert_halt (x:TypeId) (w:World):(Instr.typeAssert haltV x 274 true).run Tryz.prog w=.ok (.tuple #[.agg #[],.bool true]) w:=by
 simp[Instr.typeAssert,run_underlying Tryz.underlying274]
theorem catch_halt (lb eb:Nat) (v0 v1:Value) (w:World) (hp:w.cell? ⟨lb,0,none⟩=some v0) (hq:w.cell? ⟨eb,0,none⟩=some v1) (zp:w.frozen? ⟨lb,0,none⟩=false) (zq:w.frozen? ⟨eb,0,none⟩=false) (hne:lb≠eb) :
  CallsD Tryz.prog 195 #[.pointer (some ⟨lb,0,none⟩),.pointer (some ⟨eb,0,none⟩)] (.panicking haltC) w fun e u' w'=>e=.returned (.tuple #[])/\u'=.panicking [{ v:=haltV,recovered:=true }]/\w'.cell? ⟨lb,0,none⟩=some (.slice none 0 0)/\w'.cell? ⟨eb,0,none⟩=some (errN 5)/\But (fun k=>k=lb \/ k=eb) w w':=by
 have hl:=World.block_lt_of_cell? _ _ hp
 have he:=World.block_lt_of_cell? _ _ hq
 refine callsD_of_wpS Tryz.func195 rfl fun c₀ cs hu=>?_
 apply wpS_seq
 apply wpS_region
 simp[wpOpsS,go_sem,recoverD,hu,Tryz.ntmps195,Exit.thenS]
 rw[show (#[Value.pointer (some ⟨lb,0,none⟩),Value.pointer (some ⟨eb,0,none⟩)]++((Array.replicate 15 undef).setIfInBounds 3 haltV).setIfInBounds 0 haltV)=#[.pointer (some ⟨lb,0,none⟩),.pointer (some ⟨eb,0,none⟩),haltV,undef,undef,haltV,undef,undef,undef,undef,undef,undef,undef,undef,undef,undef,undef] from rfl]
 refine wpS_of_wp ?_
 have hta:=fun (x:TypeId) (W:World)=>assert_halt x W
 go_wp2
 have b1:((w.setCell ⟨lb,0,none⟩ (.slice none 0 0)).setCell ⟨eb,0,none⟩ (errN 5)).cell? ⟨lb,0,none⟩=some (.slice none 0 0):=by
  rw[World.cell?_setCell_other _ _ _ _ (by intro e;have:=congrArg Addr.block e;simp at this;omega)];exact World.cell?_setCell_same _ _ _ hp
 have b2:((w.setCell ⟨lb,0,none⟩ (.slice none 0 0)).setCell ⟨eb,0,none⟩ (errN 5)).cell? ⟨eb,0,none⟩=some (errN 5):=
  World.cell?_setCell_same _ _ _ (by rw[World.cell?_setCell_other _ _ _ _ (by intro e;have:=congrArg Addr.block e;simp at this;omega)];exact hq)
 have hB:=below_al (below_self ((w.setCell ⟨lb,0,none⟩ (.slice none 0 0)).setCell ⟨eb,0,none⟩ (errN 5))) (.cells #[] 274)
 cases c₀
 refine⟨rfl,_,rfl,_,by simp[results,Tryz.results195],rfl,rfl,?_,?_,?_⟩
 ·exact (hB.cell (p:=⟨lb,0,none⟩) (by simpa [World.setCell] using hl)).trans b1
 ·exact (hB.cell (p:=⟨eb,0,none⟩) (by simpa [World.setCell] using he)).trans b2
 ·exact (((But.refl _ w).setCell (p:=⟨lb,0,none⟩) (.inl (.inl rfl)) _).setCell (p:=⟨eb,0,none⟩) (.inl (.inr rfl)) _).alloc _
theorem dec_rdG (b:List UInt8):Vs.dec b=match rdG b with|some (l,[])=>some l|_=>none:=by
 cases b with
 | nil=>rfl
 | cons n s=>
  rw[Vs.dec,rdG]
  cases Vs.decN n.toNat s with
  | none=>rfl
  | some lt=>
   obtain⟨l,t⟩:=lt
   cases t with
   | nil=>by_cases h:Vs.chF l=0 <;> simp[h]
   | cons x u=>by_cases h:Vs.chF l=0 <;> simp[h]
structure Dx (w W:World):Prop where
 lt:w.heap.size+2<W.heap.size
 c0:W.cell? ⟨w.heap.size,0,none⟩=some (.slice none 0 0)
 z0:W.frozen? ⟨w.heap.size,0,none⟩=false
 c1:W.cell? ⟨w.heap.size+1,0,none⟩=some .nilIface
 z1:W.frozen? ⟨w.heap.size+1,0,none⟩=false
 below:Below w.heap.size w W
theorem Dx.but {w W W':World} (h:Dx w W) (hb:But (· = w.heap.size+2) W W'):Dx w W':=by
 have:=h.lt
 have:=hb.size
 exact⟨by omega,(hb.cell (p:=⟨w.heap.size,0,none⟩) (by simp;omega) (by show ¬ _=_;simp)).trans h.c0,(hb.frozen (p:=⟨w.heap.size,0,none⟩) (by simp;omega) (by show ¬ _=_;simp)).trans h.z0,
  (hb.cell (p:=⟨w.heap.size+1,0,none⟩) (by simp;omega) (by show ¬ _=_;simp)).trans h.c1,(hb.frozen (p:=⟨w.heap.size+1,0,none⟩) (by simp;omega) (by show ¬ _=_;simp)).trans h.z1,
  h.below.trans (hb.under (by omega) (fun k hk=>by show ¬ _=_;omega))⟩
theorem dx_new (b:List UInt8) (p:Option Addr) (cp:Nat) (w:World) (hl:b.length<=cp) (hp:ByAt w p b) :
  Dx w (((w.alloc (.cells #[.slice none 0 0] 176)).alloc (.cells #[.nilIface] 26)).alloc (.cells #[.slice p b.length cp] 278)) ∧
  Rd (((w.alloc (.cells #[.slice none 0 0] 176)).alloc (.cells #[.nilIface] 26)).alloc (.cells #[.slice p b.length cp] 278)) (w.heap.size+2) b:=by
 have a0:(w.alloc (.cells #[.slice none 0 0] 176)).cell? ⟨w.heap.size,0,none⟩=some (.slice none 0 0):=by simp
 have a1:(w.alloc (.cells #[.slice none 0 0] 176)).frozen? ⟨w.heap.size,0,none⟩=false:=by simp
 have hB1:=below_al (below_self w) (.cells #[.slice none 0 0] 176)
 have hs1:(w.alloc (.cells #[.slice none 0 0] 176)).heap.size=w.heap.size+1:=by simp
 generalize w.alloc (.cells #[.slice none 0 0] 176)=w1 at a0 a1 hB1 hs1
 have b0:(w1.alloc (.cells #[.nilIface] 26)).cell? ⟨w1.heap.size,0,none⟩=some .nilIface:=by simp
 have b1:(w1.alloc (.cells #[.nilIface] 26)).frozen? ⟨w1.heap.size,0,none⟩=false:=by simp
 have hB2:=below_al (below_self w1) (.cells #[.nilIface] 26)
 have hs2:(w1.alloc (.cells #[.nilIface] 26)).heap.size=w1.heap.size+1:=by simp
 generalize w1.alloc (.cells #[.nilIface] 26)=w2 at b0 b1 hB2 hs2
 have c0:(w2.alloc (.cells #[.slice p b.length cp] 278)).cell? ⟨w2.heap.size,0,none⟩=some (.slice p b.length cp):=by simp
 have c1:(w2.alloc (.cells #[.slice p b.length cp] 278)).frozen? ⟨w2.heap.size,0,none⟩=false:=by simp
 have hB3:=below_al (below_self w2) (.cells #[.slice p b.length cp] 278)
 have hs3:(w2.alloc (.cells #[.slice p b.length cp] 278)).heap.size=w2.heap.size+1:=by simp
 generalize w2.alloc (.cells #[.slice p b.length cp] 278)=w3 at c0 c1 hB3 hs3
 have e2:w2.heap.size=w.heap.size+2:=by omega
 rw[e2] at c0 c1
 rw[hs1] at b0 b1
 have hB23:=below_via hB2 hB3
 have hB:Below w.heap.size w w3:=below_via hB1 hB23
 refine⟨⟨by omega,(hB23.cell (p:=⟨w.heap.size,0,none⟩) (by simp;omega)).trans a0,(hB23.frozen (p:=⟨w.heap.size,0,none⟩) (by simp;omega)).trans a1,(hB3.cell (p:=⟨w.heap.size+1,0,none⟩) (by simp;omega)).trans b0,(hB3.frozen (p:=⟨w.heap.size+1,0,none⟩) (by simp;omega)).trans b1,hB⟩,⟨by omega,c1,p,cp,c0,hl,fun h=>?_⟩⟩
 obtain⟨bb,off,rfl,hlt,hC⟩:=hp h
 exact⟨bb,off,rfl,by omega,hC.step hlt hB⟩
theorem decode_no (b:List UInt8) (p:Option Addr) (cp:Nat) (w:World) (hl:b.length<=cp) (hp:ByAt w p b) (hd:rdG b=none) :
  Calls Tryz.prog 152 #[.slice p b.length cp] w fun e w'=>e=.returned (.tuple #[.slice none 0 0,errN 5])/\Below w.heap.size w w':=by
 obtain⟨hx,hr⟩:=dx_new b p cp w hl hp
 have K:=changes_no hr hd
 have hmf:∀ (fn:Fn) (first cap:Array Value) (w:World),(Instr.makeFunc fn first cap).run Tryz.prog w=.ok (.func fn first cap) w:=fun _ _ _ _=>rfl
 go_enter_defers Tryz.func152,Tryz.ntmps152
 go_wp2_with (go_at_call 196;refine K.mono ?_;clear K;rintro e w2 ⟨rfl,hb2⟩;have hx2:=hx.but hb2)
 refine leaves_cons (f:=195) (args:=#[.pointer (some ⟨w.heap.size,0,none⟩),.pointer (some ⟨w.heap.size+1,0,none⟩)]) (by simp) (by simp[go_sem]) ?_
 refine (catch_halt w.heap.size (w.heap.size+1) _ _ _ hx2.c0 hx2.c1 hx2.z0 hx2.z1 (by omega)).mono ?_
 rintro e u' w3 ⟨rfl,rfl,c0,c1,hb3⟩
 simp[Leaves,settle,results,Tryz.results152,go_sem,c0,c1]
 exact hx2.below.trans (hb3.under (by have:=hx2.lt;omega) (fun k hk=>by omega))
structure Dy (w W:World) (v:Value):Prop where
 lt:w.heap.size+2<W.heap.size
 c0:W.cell? ⟨w.heap.size,0,none⟩=some v
 z0:W.frozen? ⟨w.heap.size,0,none⟩=false
 c1:W.cell? ⟨w.heap.size+1,0,none⟩=some .nilIface
 z1:W.frozen? ⟨w.heap.size+1,0,none⟩=false
 below:Below w.heap.size w W
theorem Dx.set {w W:World} (h:Dx w W) (v:Value):Dy w (W.setCell ⟨w.heap.size,0,none⟩ v) v:=by
 have:=h.lt
 exact⟨by simpa [World.setCell] using h.lt,World.cell?_setCell_same _ _ _ h.c0,by simpa using h.z0,by rw[World.cell?_setCell_other _ _ _ _ (by intro e;have:=congrArg Addr.block e;simp at this)];exact h.c1,by simpa using h.z1,h.below.setCell (by simp) _⟩
theorem decode_ok (b:List UInt8) (l:List Vs.Chg) (p:Option Addr) (cp:Nat) (w:World) (hl:b.length<=cp) (hp:ByAt w p b) (hd:rdG b=some (l,[])) :
  Calls Tryz.prog 152 #[.slice p b.length cp] w fun e w'=>∃ q cq,e=.returned (.tuple #[.slice q l.length cq,.nilIface])/\w'.ownsRow w.heap.size 215 3 (.slice q l.length cq) l.length (chV l)/\Below w.heap.size w w':=by
 obtain⟨hx,hr⟩:=dx_new b p cp w hl hp
 have K:=changes_ok hr hd
 have hmf:∀ (fn:Fn) (first cap:Array Value) (w:World),(Instr.makeFunc fn first cap).run Tryz.prog w=.ok (.func fn first cap) w:=fun _ _ _ _=>rfl
 go_enter_defers Tryz.func152,Tryz.ntmps152
 go_wp2_with (first
  | (go_at_call 197;refine (end_ok hq3).mono ?_;rintro e w4 ⟨rfl,hw4⟩;subst hw4)
  | (go_at_call 196;refine K.mono ?_;clear K;rintro e w2 ⟨pl,cl,rfl,hown,hr2,hb2⟩;have hx2:=hx.but hb2;have d0:=hx2.c0;have d1:=hx2.z0;have d2:=hx2.c1;have d3:=hx2.z1;have hy:=hx2.set (.slice pl l.length cl);have y0:=hy.c0;have y1:=hy.z0;have y2:=hy.c1;have y3:=hy.z1;obtain⟨-,-,qr,cr,hq,-,-⟩:=hr2;have hq3:(w2.setCell ⟨w.heap.size,0,none⟩ (.slice pl l.length cl)).cell? ⟨w.heap.size+2,0,none⟩=some (.slice qr 0 cr):=(by rw[World.cell?_setCell_other _ _ _ _ (by intro e;have:=congrArg Addr.block e;simp at this)];exact hq)))
 have c0:(((w2.setCell ⟨w.heap.size,0,none⟩ (.slice pl l.length cl)).setCell ⟨w.heap.size,0,none⟩ (.slice pl l.length cl)).setCell ⟨w.heap.size+1,0,none⟩ .nilIface).cell? ⟨w.heap.size,0,none⟩=some (.slice pl l.length cl):=by
  rw[World.cell?_setCell_other _ _ _ _ (by intro e;have:=congrArg Addr.block e;simp at this)];exact World.cell?_setCell_same _ _ _ y0
 have c1:(((w2.setCell ⟨w.heap.size,0,none⟩ (.slice pl l.length cl)).setCell ⟨w.heap.size,0,none⟩ (.slice pl l.length cl)).setCell ⟨w.heap.size+1,0,none⟩ .nilIface).cell? ⟨w.heap.size+1,0,none⟩=some .nilIface:=
  World.cell?_setCell_same _ _ _ (by rw[World.cell?_setCell_other _ _ _ _ (by intro e;have:=congrArg Addr.block e;simp at this)];exact y2)
 have hown3:=ownsRow_setCell_below (ownsRow_setCell_below (ownsRow_setCell_below hown (a:=⟨w.heap.size,0,none⟩) (by simp;omega) (.slice pl l.length cl)) (a:=⟨w.heap.size,0,none⟩) (by simp;omega) (.slice pl l.length cl)) (a:=⟨w.heap.size+1,0,none⟩) (by simp) .nilIface
 have hb3:=(hy.below.setCell (p:=⟨w.heap.size,0,none⟩) (by simp) (.slice pl l.length cl)).setCell (p:=⟨w.heap.size+1,0,none⟩) (by simp) .nilIface
 refine leaves_cons (f:=195) (args:=#[.pointer (some ⟨w.heap.size,0,none⟩),.pointer (some ⟨w.heap.size+1,0,none⟩)]) (by simp) (by simp[go_sem]) ?_
 refine (catch_idle ⟨w.heap.size,0,none⟩ ⟨w.heap.size+1,0,none⟩ _).mono ?_
 rintro e u' w3 ⟨rfl,rfl,rfl⟩
 exact⟨.tuple #[.slice pl l.length cl,.nilIface],by simp[results,Tryz.results152,go_sem,c0,c1],pl,cl,rfl,ownMono (by simp;omega) hown3,hb3⟩
end Go.Proofs.YtcjdoeclblhaeaaGreatDoor
namespace Go.Proofs.YtcjdoeclblhaeaaGreatDoor
open Go.RowKit
theorem drop_cons (s:ByteArray) (k:Nat) (h:k<s.size):s.data.toList.drop k=s[k] :: s.data.toList.drop (k+1):=by
 rw[List.drop_eq_getElem_cons (by simpa using h)];rfl
theorem readNumber (s:ByteArray) (most:Int) (w:World) (hm0:0<=most) (hm1:most<=255) (hs:s.size<=281474976710656) :
  Calls Tryz.prog 201 #[.string s,.int .i64 most] w fun e w'=>e=.returned (.tuple #[.int .i64 (Bur.rdV most s.data.toList),.bool (Bur.rdB most s.data.toList)])/\w'=w:=by
 go_enter Tryz.func201,Tryz.ntmps201
 go_upto_region 1 with fail
 go_cut [19] (fun t wx=>t=.bool (Bur.bad s.data.toList)/\wx=w)
 case first=>
  by_cases h0:s.size=0
  ·have hl:s.data.toList=[]:=by apply List.eq_nil_of_length_eq_zero;simpa using h0
   have h1:s.toList.isEmpty=true:=by rw[ByteArray.toList_eq,hl];rfl
   go_wp2_with fail
   go_meet
   case rel=>exact⟨by simp[Bur.bad,hl],rfl⟩
  ·have hp:0<s.size:=by omega
   have hl:=drop_cons s 0 hp
   rw[List.drop_zero] at hl
   have h1:s.toList.isEmpty=false:=by rw[ByteArray.toList_eq,hl];rfl
   by_cases h2:(s[0].toNat:Int)=48
   ·have h3:((s[0].toNat:Int)==48)=true:=by simp[h2]
    have h4:s[0]=48:=by apply UInt8.toNat_inj.1;show s[0].toNat=48;omega
    have E:Hid ((!s.toList == [48])=Bur.bad s.data.toList):=by
     show _=_
     rw[ByteArray.toList_eq,hl,h4,Bool.eq_iff_iff]
     simp[Bur.bad]
    clear hl h4
    cases h5:(s.toList == [48])
    all_goals
     rw[h5] at E
     go_wp2_with fail
     go_meet
     case rel=>exact⟨by rw[<- E.out];rfl,rfl⟩
   ·have h3:((s[0].toNat:Int)==48)=false:=by simp[h2]
    have E:Hid (Bur.bad s.data.toList=false):=by
     show _=_
     rw[hl]
     have:s[0]≠48:=by intro e;rw[e] at h2;exact h2 rfl
     simp[Bur.bad,this]
    clear hl
    go_wp2_with fail
    go_meet
    case rel=>exact⟨by rw[E.out],rfl⟩
 case rest=>
 obtain⟨rfl,rfl⟩:=hcut
 cases hb:Bur.bad s.data.toList
 ·have E1:Hid (Bur.rdV most s.data.toList=(Bur.rdGo most 0 (s.data.toList.drop 0)).getD 0):=by show _=_;unfold Bur.rdV;rw[Bur.rd_good hb];rfl
  have E2:Hid (Bur.rdB most s.data.toList=(Bur.rdGo most 0 (s.data.toList.drop 0)).isSome):=by show _=_;unfold Bur.rdB;rw[Bur.rd_good hb];rfl
  clear hb
  go_wp2
  go_loop [6,7,8,22] (fun n _ _ i=>∃ (k:Nat) (m:Int),k<=s.size/\0<=m/\m<=most/\i=.int .i64 k/\n=.int .i64 m/\Bur.rdV most s.data.toList=(Bur.rdGo most m (s.data.toList.drop k)).getD 0/\Bur.rdB most s.data.toList=(Bur.rdGo most m (s.data.toList.drop k)).isSome) (fun _ _ _ i=>s.size - (intOf i).toNat)
  case atStart=>exact⟨0,0,by omega,by omega,hm0,rfl,rfl,E1.out,E2.out⟩
  case round=>
   obtain⟨k,m,hk,m0,m1,rfl,rfl,r1,r2⟩:=hrel
   have R1:Hid _:=r1
   have R2:Hid _:=r2
   clear r1 r2 E1 E2
   by_cases hlt:k<s.size
   ·have hd:Hid _:=drop_cons s k hlt
    have hc:s[k].toNat<256:=s[k].toNat_lt
    by_cases c1:s[k].toNat<48
    ·have c1':(s[k].toNat:Int)<48:=by omega
     go_wp2
     go_ret2
     rw[R1.out,R2.out,hd.out,Bur.rdGo_no (Or.inl c1)]
     exact⟨rfl,rfl⟩
    by_cases c2:57<s[k].toNat
    ·have c2':57<(s[k].toNat:Int):=by omega
     have c1':¬ (s[k].toNat:Int)<48:=by omega
     go_wp2
     go_ret2
     rw[R1.out,R2.out,hd.out,Bur.rdGo_no (Or.inr c2)]
     exact⟨rfl,rfl⟩
    have c1':¬ (s[k].toNat:Int)<48:=by omega
    have c2':¬ 57<(s[k].toNat:Int):=by omega
    by_cases c3:most<10*m+((s[k].toNat:Int) - 48)
    ·go_wp2
     go_ret2
     rw[R1.out,R2.out,hd.out,Bur.rdGo_big (by omega) (by omega) c3]
     exact⟨rfl,rfl⟩
    ·go_wp2
     refine⟨⟨k+1,10*m+((s[k].toNat:Int) - 48),by omega,by omega,by omega,by go_num,rfl,?_,?_⟩,by simp[intOf];omega⟩
     ·rw[R1.out,hd.out,Bur.rdGo_on (by omega) (by omega) c3]
     ·rw[R2.out,hd.out,Bur.rdGo_on (by omega) (by omega) c3]
   ·go_wp2
    go_ret2
    have e:s.data.toList.drop k=[]:=List.drop_of_length_le (by simp;omega)
    rw[R1.out,R2.out,e]
    exact⟨rfl,rfl⟩
 ·have E1:Hid (Bur.rdV most s.data.toList=0):=by show _=_;unfold Bur.rdV;rw[Bur.rd_bad hb];rfl
  have E2:Hid (Bur.rdB most s.data.toList=false):=by show _=_;unfold Bur.rdB;rw[Bur.rd_bad hb];rfl
  go_wp2
  go_ret2
  rw[E1.out,E2.out]
  exact⟨rfl,rfl⟩
abbrev oct (a b c d:Int):Value:=.agg #[.int .u8 a,.int .u8 b,.int .u8 c,.int .u8 d]
abbrev ocs (a b c d:Int):Obj:=.cells #[.int .u8 a,.int .u8 b,.int .u8 c,.int .u8 d] 156
theorem idx (a b c d:Int):(∀ w,(Instr.index 156 (oct a b c d) (.int .i64 0)).run Tryz.prog w=.ok (.int .u8 a) w)/\(∀ w,(Instr.index 156 (oct a b c d) (.int .i64 1)).run Tryz.prog w=.ok (.int .u8 b) w) ∧
  (∀ w,(Instr.index 156 (oct a b c d) (.int .i64 2)).run Tryz.prog w=.ok (.int .u8 c) w)/\(∀ w,(Instr.index 156 (oct a b c d) (.int .i64 3)).run Tryz.prog w=.ok (.int .u8 d) w):=
 ⟨fun _=>by kernel_rfl,fun _=>by kernel_rfl,fun _=>by kernel_rfl,fun _=>by kernel_rfl⟩
theorem join (a b c d:Int) (w:World) (a0:0<=a) (a1:a<=255) (b0:0<=b) (b1:b<=255) (c0:0<=c) (c1:c<=255) (d0:0<=d) (d1:d<=255) :
  Calls Tryz.prog 161 #[oct a b c d] w fun e w'=>e=.returned (.int .i64 (((a*256+b)*256+c)*256+d))/\w'=w.alloc (ocs a b c d):=by
 obtain⟨i0,i1,i2,i3⟩:=idx a b c d
 go_enter Tryz.func161,Tryz.ntmps161
 go_wp2
 refine wp_loop_rounds 5 ?_
 have o0:=Bur.or_zero a a0 a1
 have o1:=Bur.or_byte a b a0 (by omega) b0 b1
 have o2:=Bur.or_byte (a*256+b) c (by omega) (by omega) c0 c1
 have o3:=Bur.or_byte ((a*256+b)*256+c) d (by omega) (by omega) d0 d1
 rw[rounds_succ]
 go_wp2
 rw[rounds_succ]
 go_wp2
 rw[rounds_succ]
 go_wp2
 rw[rounds_succ]
 go_wp2
 rw[rounds_succ]
 go_wp2
 go_ret
 exact⟨rfl,rfl⟩
theorem split (a:Int) (w:World) (ha:Bur.isA a=true) :
  Calls Tryz.prog 86 #[.int .i64 a] w fun e w'=>e=.returned (oct (a / 16777216) (a / 65536 % 256) (a / 256 % 256) (a % 256))/\Below w.heap.size w w':=by
 obtain⟨a0,a1⟩:=Bur.isA_true ha
 go_enter Tryz.func86,Tryz.ntmps86
 go_wp2
 refine wp_loop_rounds 5 ?_
 rw[rounds_succ]
 go_wp2
 rw[rounds_succ]
 go_wp2
 rw[rounds_succ]
 go_wp2
 rw[rounds_succ]
 go_wp2
 rw[rounds_succ]
 go_wp2
 exact bodyPost_ret (v:=oct (a / 16777216) (a / 65536 % 256) (a / 256 % 256) (a % 256)) (by simp[results,Tryz.results86,go_sem]) rfl ⟨rfl,below_al (below_al (below_self _) _) _⟩
end Go.Proofs.YtcjdoeclblhaeaaGreatDoor
