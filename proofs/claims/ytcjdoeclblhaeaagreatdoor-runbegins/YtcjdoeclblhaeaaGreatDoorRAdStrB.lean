/- -/
import Derived.Test.YtcjdoeclblhaeaaGreatDoorRCcA
import Derived.Test.YtcjdoeclblhaeaaGreatDoorRShelf
import Derived.Lib.SmallJoins
import Derived.Lib.AppendIntMem
import Derived.Test.YtcjdoeclblhaeaaGreatDoorRAdCutMath
import Derived.Test.YtcjdoeclblhaeaaGreatDoorRRnSpl
set_option maxHeartbeats 1000000
namespace Bur
open Go
def dec (n:Int):List UInt8:=Lib.decDigits n.toNat
def txt (a b c d:Int):List UInt8:=dec a++(46 :: (dec b++(46 :: (dec c++(46 :: dec d)))))
theorem dec1 {n:Int} (h0:0<=n) (h1:n<10):dec n=[UInt8.ofNat (48+n.toNat)]:=by
 unfold dec;rw[Lib.decDigits,dif_pos (by omega)]
theorem dec2 {n:Int} (h0:10<=n) (h1:n<100):dec n=[UInt8.ofNat (48+n.toNat / 10),UInt8.ofNat (48+n.toNat % 10)]:=by
 unfold dec;rw[Lib.decDigits,dif_neg (by omega),Lib.decDigits,dif_pos (by omega)];rfl
theorem dec3 {n:Int} (h0:100<=n) (h1:n<1000):dec n=[UInt8.ofNat (48+n.toNat / 10 / 10),UInt8.ofNat (48+n.toNat / 10 % 10),UInt8.ofNat (48+n.toNat % 10)]:=by
 unfold dec;rw[Lib.decDigits,dif_neg (by omega),Lib.decDigits,dif_neg (by omega),Lib.decDigits,dif_pos (by omega)];rfl
theorem dec_len {n:Int} (h0:0<=n) (h1:n<1000):(dec n).length<=3:=by
 by_cases h2:n<10
 ·rw[dec1 h0 h2];simp
 by_cases h3:n<100
 ·rw[dec2 (by omega) h3];simp
 ·rw[dec3 (by omega) h1];simp
end Bur
namespace Go.Proofs.YtcjdoeclblhaeaaGreatDoor
open Go.RowKit Go.Joins
abbrev Pow10 (w:World):Prop:=Lib.TabIs Tryz.prog w "internal/strconv.uint64pow10" .u64 Lib.pow10Tab
theorem pow10Global:Tryz.prog.globalNamed "internal/strconv.uint64pow10" = some 4:=by kernel_rfl
theorem Pow10.step {w w':World} (h:Pow10 w) (hb:Below w.heap.size w w'):Pow10 w':=tab_stays pow10Global h hb (Nat.le_refl _)
theorem Pow10.alloc {w:World} (h:Pow10 w) (o:Obj):Pow10 (w.alloc o):=h.step (below_al (below_self _) _)
theorem itoa (n:Int) (w:World) (h0:0<=n) (h1:n<=4294967295) (ht:Pow10 w) :
  Calls Tryz.prog 39 #[.int .i64 n] w fun e w'=>e=.returned (.string ⟨(Bur.dec n).toArray⟩)/\Below w.heap.size w w':=by
 refine (Tryz.strconv_Itoa n (by omega) (by omega) w ht).mono ?_
 rintro e w' ⟨rfl,k,os,rfl⟩
 have e:Lib.itoa n=Bur.dec n:=if_neg (by omega)
 exact⟨by rw[e],Lib.below_grow _ _ (Nat.le_refl _) _ _⟩
theorem cat {x y z:List UInt8} (h:z=x++y) (hx:x.length<=1000) (hy:y.length<=1000):∀ w:World,(Op.stringOp .add ⟨x.toArray⟩ ⟨y.toArray⟩).run Tryz.prog w=.ok (.string ⟨z.toArray⟩) w:=by
 intro w
 subst h
 exact run_string_add_lists w x y (by omega) (by omega)
theorem writeOctets (a b c d:Int) (w:World) (ht:Pow10 w) (a0:0<=a) (a1:a<=255) (b0:0<=b) (b1:b<=255) (c0:0<=c) (c1:c<=255) (d0:0<=d) (d1:d<=255) :
  Calls Tryz.prog 85 #[oct a b c d] w fun e w'=>e=.returned (.string ⟨(Bur.txt a b c d).toArray⟩)/\Below w.heap.size w w':=by
 obtain⟨i0,i1,i2,i3⟩:=idx a b c d
 have la:=Bur.dec_len a0 (by omega)
 have lb:=Bur.dec_len b0 (by omega)
 have lc:=Bur.dec_len c0 (by omega)
 have ld:=Bur.dec_len d0 (by omega)
 have e1:=cat (x:=[]) (y:=Bur.dec a) (z:=Bur.dec a) rfl (by simp) (by omega)
 obtain⟨z2,Z2⟩:∃ z:List UInt8,Hid (z=Bur.dec a ++ [46]):=⟨Bur.dec a ++ [46],Eq.refl _⟩
 have e2:=cat (x:=Bur.dec a) (y:=[46]) Z2 (by omega) (by simp)
 have l2:z2.length<=4:=by rw[Z2.out];simp;omega
 obtain⟨z3,Z3⟩:∃ z,Hid (z=z2++Bur.dec b):=⟨_,rfl⟩
 have e3:=cat (x:=z2) (y:=Bur.dec b) Z3 (by omega) (by omega)
 have l3:z3.length<=7:=by rw[Z3.out];simp;omega
 obtain⟨z4,Z4⟩:∃ z:List UInt8,Hid (z=z3 ++ [46]):=⟨z3 ++ [46],Eq.refl _⟩
 have e4:=cat (x:=z3) (y:=[46]) Z4 (by omega) (by simp)
 have l4:z4.length<=8:=by rw[Z4.out];simp;omega
 obtain⟨z5,Z5⟩:∃ z,Hid (z=z4++Bur.dec c):=⟨_,rfl⟩
 have e5:=cat (x:=z4) (y:=Bur.dec c) Z5 (by omega) (by omega)
 have l5:z5.length<=11:=by rw[Z5.out];simp;omega
 obtain⟨z6,Z6⟩:∃ z:List UInt8,Hid (z=z5 ++ [46]):=⟨z5 ++ [46],Eq.refl _⟩
 have e6:=cat (x:=z5) (y:=[46]) Z6 (by omega) (by simp)
 have l6:z6.length<=12:=by rw[Z6.out];simp;omega
 obtain⟨z7,Z7⟩:∃ z,Hid (z=z6++Bur.dec d):=⟨_,rfl⟩
 have e7:=cat (x:=z6) (y:=Bur.dec d) Z7 (by omega) (by omega)
 clear la lb lc ld l2 l3 l4 l5 l6
 go_enter Tryz.func85,Tryz.ntmps85
 go_wp2
 refine wp_loop_rounds 5 ?_
 rw[rounds_succ]
 go_wp2_with (go_at_call 39;refine (itoa _ _ a0 (by omega) (by exact ht.alloc _)).mono ?_;rintro e w1 ⟨rfl,hb1⟩)
 replace ht:=(ht.alloc _).step hb1
 rw[rounds_succ]
 go_wp2_with (go_at_call 39;refine (itoa _ _ b0 (by omega) (by exact ht)).mono ?_;rintro e w2 ⟨rfl,hb2⟩)
 replace ht:=ht.step hb2
 rw[rounds_succ]
 go_wp2_with (go_at_call 39;refine (itoa _ _ c0 (by omega) (by exact ht)).mono ?_;rintro e w3 ⟨rfl,hb3⟩)
 replace ht:=ht.step hb3
 rw[rounds_succ]
 go_wp2_with (go_at_call 39;refine (itoa _ _ d0 (by omega) (by exact ht)).mono ?_;rintro e w4 ⟨rfl,hb4⟩)
 rw[rounds_succ]
 go_wp2
 go_ret
 refine⟨?_,below_via (below_via (below_via (below_via (below_al (below_self _) _) hb1) hb2) hb3) hb4⟩
 rw[Z7.out,Z6.out,Z5.out,Z4.out,Z3.out,Z2.out]
 simp[Bur.txt]
end Go.Proofs.YtcjdoeclblhaeaaGreatDoor
namespace Bur
open Go
def cw (l:List UInt8):List UInt8:=(cutc 46 l).1
def cr (l:List UInt8):List UInt8:=(cutc 46 l).2.1
def cf (l:List UInt8):Bool:=(cutc 46 l).2.2
def it:Nat->List UInt8->List UInt8
 | 0,l=>l
 | k+1,l=>cr (it k l)
def ov (l:List UInt8) (k:Nat):Int:=rdV 255 (cw (it k l))
def og (l:List UInt8) (k:Nat):Bool:=(cf (it k l) == !(k==3))&&rdB 255 (cw (it k l))
def okO (l:List UInt8):Bool:=og l 0&&og l 1&&og l 2&&og l 3
theorem ov_bd (l:List UInt8) (k:Nat):0<=ov l k/\ov l k<=255:=rdV_bd 255 _ (by decide)
theorem okO_no {l:List UInt8} {k:Nat} (hk:k<4) (h:og l k=false):okO l=false:=by
 unfold okO
 match k,hk with
 | 0,_=>simp[h]
 | 1,_=>simp[h]
 | 2,_=>simp[h]
 | 3,_=>simp[h]
theorem okO_ok {l:List UInt8} (h:∀ k,k<4->og l k=true):okO l=true:=by
 unfold okO;simp[h 0 (by decide),h 1 (by decide),h 2 (by decide),h 3 (by decide)]
theorem cw_len (l:List UInt8):(cw l).length<=l.length:=(cutc_len 46 l).1
theorem cr_len (l:List UInt8):(cr l).length<=l.length:=(cutc_len 46 l).2
theorem it_len (l:List UInt8):∀ k,(it k l).length<=l.length
 | 0=>Nat.le_refl _
 | k+1=>Nat.le_trans (cr_len _) (it_len l k)
end Bur
namespace Go.Proofs.YtcjdoeclblhaeaaGreatDoor
open Go.RowKit
def MaxL (w:World):Prop:=∃ m:Int,w.cell? ⟨0,0,none⟩=some (.int .i64 m)
theorem MaxL.lt {w:World} (h:MaxL w):0<w.heap.size:=by
 obtain⟨m,h⟩:=h
 exact World.block_lt_of_cell? _ _ h
theorem MaxL.step {w w':World} (h:MaxL w) (hb:Below w.heap.size w w'):MaxL w':=by
 have hl:=h.lt
 obtain⟨m,h⟩:=h
 exact⟨m,by rw[hb.cell (p:=⟨0,0,none⟩) hl];exact h⟩
theorem MaxL.alloc {w:World} (h:MaxL w) (o:Obj):MaxL (w.alloc o):=h.step (below_al (below_self _) _)
theorem MaxL.set {w:World} (h:MaxL w) {p:Addr} (hp:p.block≠0) (v:Value):MaxL (w.setCell p v):=by
 obtain⟨m,h⟩:=h
 refine⟨m,?_⟩
 rw[World.cell?_of_block (w:=w) (a:=⟨0,0,none⟩) (Below.heap_setCell _ _ _ _ (Ne.symm hp))]
 exact h
theorem cutAt (l:List UInt8) (c:UInt8) (w:World) (hl:l.length<4294967281) (hm:MaxL w) :
  Calls Tryz.prog 6 #[.string ⟨l.toArray⟩,.string ⟨#[c]⟩] w fun e w'=>e=.returned (.tuple #[.string ⟨(Bur.cutc c l).1.toArray⟩,.string ⟨(Bur.cutc c l).2.1.toArray⟩,.bool (Bur.cutc c l).2.2]) /\ ∃ n,w'=w.drewN n:=by
 obtain⟨m,hm⟩:=hm
 have:=Tryz.strings_Cut ⟨l.toArray⟩ ⟨#[c]⟩ m w (by simpa [ByteArray.size] using hl) hm
 have e:Lib.cut (ByteArray.mk l.toArray).data.toList (ByteArray.mk #[c]).data.toList=Bur.cutc c l:=Bur.cut_eq c l
 rw[e] at this
 exact this
theorem cutDot (l:List UInt8) (w:World) (hl:l.length<4294967281) (hm:MaxL w) :
  Calls Tryz.prog 6 #[.string ⟨l.toArray⟩,.string ⟨#[46]⟩] w fun e w'=>e=.returned (.tuple #[.string ⟨(Bur.cw l).toArray⟩,.string ⟨(Bur.cr l).toArray⟩,.bool (Bur.cf l)]) /\ ∃ n,w'=w.drewN n:=cutAt l 46 w hl hm
theorem readNum (l:List UInt8) (most:Int) (w:World) (hm0:0<=most) (hm1:most<=255) (hl:l.length<4294967281) :
  Calls Tryz.prog 201 #[.string ⟨l.toArray⟩,.int .i64 most] w fun e w'=>e=.returned (.tuple #[.int .i64 (Bur.rdV most l),.bool (Bur.rdB most l)])/\w'=w:=
 readNumber ⟨l.toArray⟩ most w hm0 hm1 (by simp[ByteArray.size];omega)
structure Oc (w:World) (b:Nat) (f:Nat->Int):Prop where
 c:∀ j,j<4->w.cell? ⟨b,j,none⟩=some (.int .u8 (f j))
 z:∀ j,j<4->w.frozen? ⟨b,j,none⟩=false
 lt:b<w.heap.size
theorem Oc.step {w w':World} {b:Nat} {f:Nat->Int} (h:Oc w b f) (hb:Below w.heap.size w w'):Oc w' b f:=by
 have hl:=h.lt
 refine⟨fun j hj=>?_,fun j hj=>?_,?_⟩
 ·rw[hb.cell (p:=⟨b,j,none⟩) hl];exact h.c j hj
 ·rw[hb.frozen (p:=⟨b,j,none⟩) hl];exact h.z j hj
 ·have:=hb.size;omega
theorem Oc.new (w:World):Oc (w.alloc (ocs 0 0 0 0)) w.heap.size (fun _=>0):=by
 refine⟨fun j hj=>?_,fun j _=>by simp,by simp⟩
 match j,hj with
 | 0,_=>simp
 | 1,_=>simp
 | 2,_=>simp
 | 3,_=>simp
theorem Oc.newAt {w:World} {b:Nat} (h:w.heap.size=b):Oc (w.alloc (ocs 0 0 0 0)) b (fun _=>0):=h ▸ Oc.new w
theorem Oc.set {w:World} {b:Nat} {f:Nat->Int} (h:Oc w b f) {k:Nat} (hk:k<4) (v:Int):Oc (w.setCell ⟨b,k,none⟩ (.int .u8 v)) b (fun j=>if j=k then v else f j):=by
 refine⟨fun j hj=>?_,fun j hj=>?_,?_⟩
 ·have hc:=h.c k hk
  by_cases e:j=k
  ·subst e
   rw[if_pos rfl]
   exact World.cell?_setCell_same _ _ _ hc
  ·rw[if_neg e,World.cell?_setCell_other _ _ _ _ (by intro h2;exact e (by injection h2 with _ h3 _;exact h3.symm))]
   exact h.c j hj
 ·rw[World.frozen?_setCell];exact h.z j hj
 ·have:=h.lt;simpa [World.setCell] using this
theorem Oc.far {w:World} {b:Nat} {f:Nat->Int} (h:Oc w b f) {p:Addr} (hp:p.block≠b) (v:Value):Oc (w.setCell p v) b f:=by
 have e:(w.setCell p v).heap[b]? = w.heap[b]? := Below.heap_setCell _ _ _ _ (Ne.symm hp)
 refine⟨fun j hj=>?_,fun j hj=>?_,?_⟩
 ·rw[World.cell?_of_block (w:=w) (a:=⟨b,j,none⟩) e];exact h.c j hj
 ·rw[World.frozen?_of_block (w:=w) (a:=⟨b,j,none⟩) e];exact h.z j hj
 ·have:=h.lt;simpa [World.setCell] using this
def octV (l:List UInt8):Value:=if Bur.okO l=true then oct (Bur.ov l 0) (Bur.ov l 1) (Bur.ov l 2) (Bur.ov l 3) else oct 0 0 0 0
theorem octV_no {l:List UInt8} (h:Bur.okO l=false):octV l=oct 0 0 0 0:=if_neg (by simp[h])
theorem octV_ok {l:List UInt8} (h:Bur.okO l=true):octV l=oct (Bur.ov l 0) (Bur.ov l 1) (Bur.ov l 2) (Bur.ov l 3):=if_pos h
theorem readOctets (l:List UInt8) (w:World) (hl:l.length<4294967281) (hm:MaxL w) :
  Calls Tryz.prog 160 #[.string ⟨l.toArray⟩] w fun e w'=>e=.returned (.tuple #[octV l,.bool (Bur.okO l)])/\Below w.heap.size w w':=by
 have hgm:=hm.lt
 go_enter Tryz.func160,Tryz.ntmps160
 go_wp2
 go_loopw [0,12] (fun t i wr=>∃ (k:Nat) (f:Nat->Int),k<=4/\t=.string ⟨(Bur.it k l).toArray⟩/\i=.int .i64 k/\Oc wr w.heap.size (fun _=>0)/\Oc wr (w.heap.size+1) f/\MaxL wr/\Below w.heap.size w wr/\(∀ j,j<k->f j=Bur.ov l j/\Bur.og l j=true)) (fun _ i _=>(4 - intOf i).toNat)
 case atStart=>
  exact⟨0,fun _=>0,by omega,rfl,rfl,(Oc.new w).step (below_al (below_self _) _),Oc.newAt (w:=w.alloc (ocs 0 0 0 0)) (by simp),(hm.alloc _).alloc _,below_al (below_al (below_self _) _) _,fun j hj=>by omega⟩
 case round=>
  obtain⟨k,f,hk,rfl,rfl,cR,cB,hmr,hbr,hgood⟩:=hrel
  have HG:Hid _:=hgood
  clear hgood hm
  have hil:=Bur.it_len l k
  have hwl:=Bur.cw_len (Bur.it k l)
  by_cases hlt:k<4
  ·have hlt':(k:Int)<4:=by omega
   go_wp2_with fail
   refine (cutDot _ _ (by omega) hmr).mono ?_;rintro e w1 ⟨rfl,n1,rfl⟩
   have hb1:Below wr.heap.size wr (wr.drewN n1):=below_drewN (below_self _) n1
   replace cR:=cR.step hb1
   replace cB:=cB.step hb1
   replace hmr:=hmr.step hb1
   replace hbr:=below_via hbr hb1
   clear hb1
   generalize wr.drewN n1=W1 at *
   have r0:=cR.c 0 (by decide)
   have r1:=cR.c 1 (by decide)
   have r2:=cR.c 2 (by decide)
   have r3:=cR.c 3 (by decide)
   have z0:=cR.z 0 (by decide)
   have z1:=cR.z 1 (by decide)
   have z2:=cR.z 2 (by decide)
   have z3:=cR.z 3 (by decide)
   have ck:=cB.c k hlt
   have zk:=cB.z k hlt
   have vb:0<=Bur.rdV 255 (Bur.cw (Bur.it k l))/\Bur.rdV 255 (Bur.cw (Bur.it k l))<=255:=Bur.ov_bd l k
   have dn:∀ fk:Nat->Int,(fk=fun j=>if j=k then Bur.rdV 255 (Bur.cw (Bur.it k l)) else f j)->Bur.og l k=true -> ∀ j,j<k+1->fk j=Bur.ov l j/\Bur.og l j=true:=by
    intro fk e h j hj
    subst e
    by_cases e:j=k
    ·subst e;exact⟨if_pos rfl,h⟩
    ·show (if j=k then _ else f j)=_/\_
     rw[if_neg e];exact HG.out j (by omega)
   have DN:Hid _:=dn
   clear dn
   by_cases h3':k=3
   ·have b3:((k:Int)==3)=true:=by simp[h3']
    have h3:Hid ((k==3)=true):=by show _=_;simp[h3']
    clear h3'
    cases hf:Bur.cf (Bur.it k l)
    ·go_wp2_with fail
     refine (readNum _ 255 _ (by decide) (by decide) (by omega)).mono ?_;rintro e w2 ⟨rfl,rfl⟩
     cases hg:Bur.rdB 255 (Bur.cw (Bur.it k l))
     ·go_wp2
      have hno:Bur.okO l=false:=Bur.okO_no hlt (by simp[Bur.og,hg])
      rw[octV_no hno,hno]
      exact bodyPost_ret (v:=.tuple #[oct 0 0 0 0,.bool false]) (by simp[results,Tryz.results160,go_sem,r0,r1,r2,r3]) rfl ⟨rfl,(((hbr.setCell (by simp) _).setCell (by simp) _).setCell (by simp) _).setCell (by simp) _⟩
     ·go_wp2
      exact⟨⟨k+1,fun j=>if j=k then Bur.rdV 255 (Bur.cw (Bur.it k l)) else f j,by omega,rfl,by go_num,cR.far (by simp) _,cB.set hlt _,hmr.set (by show w.heap.size+1≠0;omega) _,hbr.setCell (by simp) _,DN.out _ rfl (by unfold Bur.og;rw[hf,h3.out,hg];rfl)⟩,by simp[intOf];omega⟩
    ·go_wp2
     have hno:Bur.okO l=false:=Bur.okO_no hlt (by unfold Bur.og;rw[hf,h3.out];rfl)
     rw[octV_no hno,hno]
     exact bodyPost_ret (v:=.tuple #[oct 0 0 0 0,.bool false]) (by simp[results,Tryz.results160,go_sem,r0,r1,r2,r3]) rfl ⟨rfl,(((hbr.setCell (by simp) _).setCell (by simp) _).setCell (by simp) _).setCell (by simp) _⟩
   ·have b3:((k:Int)==3)=false:=by simp;omega
    have h3:Hid ((k==3)=false):=by show _=_;simp[h3']
    clear h3'
    cases hf:Bur.cf (Bur.it k l)
    ·go_wp2
     have hno:Bur.okO l=false:=Bur.okO_no hlt (by unfold Bur.og;rw[hf,h3.out];rfl)
     rw[octV_no hno,hno]
     exact bodyPost_ret (v:=.tuple #[oct 0 0 0 0,.bool false]) (by simp[results,Tryz.results160,go_sem,r0,r1,r2,r3]) rfl ⟨rfl,(((hbr.setCell (by simp) _).setCell (by simp) _).setCell (by simp) _).setCell (by simp) _⟩
    ·go_wp2_with fail
     refine (readNum _ 255 _ (by decide) (by decide) (by omega)).mono ?_;rintro e w2 ⟨rfl,rfl⟩
     cases hg:Bur.rdB 255 (Bur.cw (Bur.it k l))
     ·go_wp2
      have hno:Bur.okO l=false:=Bur.okO_no hlt (by simp[Bur.og,hg])
      rw[octV_no hno,hno]
      exact bodyPost_ret (v:=.tuple #[oct 0 0 0 0,.bool false]) (by simp[results,Tryz.results160,go_sem,r0,r1,r2,r3]) rfl ⟨rfl,(((hbr.setCell (by simp) _).setCell (by simp) _).setCell (by simp) _).setCell (by simp) _⟩
     ·go_wp2
      exact⟨⟨k+1,fun j=>if j=k then Bur.rdV 255 (Bur.cw (Bur.it k l)) else f j,by omega,rfl,by go_num,cR.far (by simp) _,cB.set hlt _,hmr.set (by show w.heap.size+1≠0;omega) _,hbr.setCell (by simp) _,DN.out _ rfl (by unfold Bur.og;rw[hf,h3.out,hg];rfl)⟩,by simp[intOf];omega⟩
  ·have hk4:k=4:=by omega
   subst hk4
   have c0:=cB.c 0 (by decide)
   have c1:=cB.c 1 (by decide)
   have c2:=cB.c 2 (by decide)
   have c3:=cB.c 3 (by decide)
   have r0:=cR.c 0 (by decide)
   have r1:=cR.c 1 (by decide)
   have r2:=cR.c 2 (by decide)
   have r3:=cR.c 3 (by decide)
   have z0:=cR.z 0 (by decide)
   have z1:=cR.z 1 (by decide)
   have z2:=cR.z 2 (by decide)
   have z3:=cR.z 3 (by decide)
   go_wp2
   have hok:Bur.okO l=true:=Bur.okO_ok fun j hj=>(HG.out j hj).2
   rw[octV_ok hok,hok,<- (HG.out 0 (by decide)).1,<- (HG.out 1 (by decide)).1,<- (HG.out 2 (by decide)).1,<- (HG.out 3 (by decide)).1]
   exact bodyPost_ret (v:=.tuple #[oct (f 0) (f 1) (f 2) (f 3),.bool true]) (by simp[results,Tryz.results160,go_sem,r0,r1,r2,r3]) rfl ⟨rfl,(((hbr.setCell (by simp) _).setCell (by simp) _).setCell (by simp) _).setCell (by simp) _⟩
end Go.Proofs.YtcjdoeclblhaeaaGreatDoor
namespace Bur
open Go
def txtA (a:Int):List UInt8:=txt (a / 16777216) (a / 65536 % 256) (a / 256 % 256) (a % 256)
def adr (l:List UInt8):Int:=if okO l=true then ((ov l 0*256+ov l 1)*256+ov l 2)*256+ov l 3 else 0
def adrF (l:List UInt8):Int:=if okO l=true then 0 else 5
end Bur
namespace Go.Proofs.YtcjdoeclblhaeaaGreatDoor
open Go.RowKit
theorem parse (l:List UInt8) (w:World) (hl:l.length<4294967281) (hm:MaxL w) :
  Calls Tryz.prog 115 #[.string ⟨l.toArray⟩] w fun e w'=>e=.returned (.tuple #[.int .i64 (Bur.adr l),ev (Bur.adrF l)])/\Below w.heap.size w w':=by
 have b0:=Bur.ov_bd l 0
 have b1:=Bur.ov_bd l 1
 have b2:=Bur.ov_bd l 2
 have b3:=Bur.ov_bd l 3
 cases h:Bur.okO l
 ·rw[show Bur.adr l=0 from if_neg (by simp[h]),show Bur.adrF l=5 from if_neg (by simp[h]),ev_ne (by decide)]
  have hv:=octV_no h
  go_enter Tryz.func115,Tryz.ntmps115
  go_wp2_with (go_at_call 160;refine (readOctets _ _ hl hm).mono ?_;rintro e w1 ⟨rfl,hb⟩)
  go_ret2
  exact⟨rfl,below_al hb _⟩
 ·rw[show Bur.adr l=((Bur.ov l 0*256+Bur.ov l 1)*256+Bur.ov l 2)*256+Bur.ov l 3 from if_pos h,show Bur.adrF l=0 from if_pos h,ev_0]
  have hv:=octV_ok h
  go_enter Tryz.func115,Tryz.ntmps115
  go_wp2_with (first|(go_at_call 160;refine (readOctets _ _ hl hm).mono ?_;rintro e w1 ⟨rfl,hb⟩)|(go_at_call 161;refine (join _ _ _ _ _ b0.1 b0.2 b1.1 b1.2 b2.1 b2.2 b3.1 b3.2).mono ?_;rintro e w2 ⟨rfl,rfl⟩))
  go_ret2
  exact⟨rfl,below_al (below_al hb _) _⟩
theorem print_no (a:Int) (w:World) (h:Bur.isA a=false) :
  Calls Tryz.prog 54 #[.int .i64 a] w fun e w'=>e=.returned (.tuple #[.string ⟨#[]⟩,errN 1])/\Below w.heap.size w w':=by
 go_enter Tryz.func54,Tryz.ntmps54
 go_wp2_with (go_at_call 87;refine (isAddress _ _).mono ?_;rintro e w' ⟨rfl,rfl⟩)
 go_ret2
 exact⟨rfl,below_self _⟩
theorem print_ok (a:Int) (w:World) (h:Bur.isA a=true) (ht:Pow10 w) :
  Calls Tryz.prog 54 #[.int .i64 a] w fun e w'=>e=.returned (.tuple #[.string ⟨(Bur.txtA a).toArray⟩,.nilIface])/\Below w.heap.size w w':=by
 obtain⟨a0,a1⟩:=Bur.isA_true h
 unfold Bur.txtA
 go_enter Tryz.func54,Tryz.ntmps54
 go_wp2_with (first|(go_at_call 87;refine (isAddress _ _).mono ?_;rintro e w' ⟨rfl,rfl⟩)|(go_at_call 86;refine (split _ _ h).mono ?_;rintro e w1 ⟨rfl,hb1⟩)|(go_at_call 85;refine (writeOctets _ _ _ _ _ (by exact ht.step hb1) (by omega) (by omega) (by omega) (by omega) (by omega) (by omega) (by omega) (by omega)).mono ?_;rintro e w2 ⟨rfl,hb2⟩))
 go_ret2
 exact⟨rfl,below_via hb1 hb2⟩
end Go.Proofs.YtcjdoeclblhaeaaGreatDoor
namespace Bur
open Go
theorem txt_len {a b c d:Int} (a0:0<=a) (a1:a<=255) (b0:0<=b) (b1:b<=255) (c0:0<=c) (c1:c<=255) (d0:0<=d) (d1:d<=255):(txt a b c d).length<=15:=by
 have:=dec_len a0 (by omega)
 have:=dec_len b0 (by omega)
 have:=dec_len c0 (by omega)
 have:=dec_len d0 (by omega)
 simp[txt]
 omega
def txtP (a l:Int):List UInt8:=txtA a++47 :: dec l
def sw (l:List UInt8):List UInt8:=(cutc 47 l).1
def sr (l:List UInt8):List UInt8:=(cutc 47 l).2.1
def sf (l:List UInt8):Bool:=(cutc 47 l).2.2
def okP (l:List UInt8):Bool:=sf l&&okO (sw l)&&rdB 32 (sr l)
def preA (l:List UInt8):Int:=((ov (sw l) 0*256+ov (sw l) 1)*256+ov (sw l) 2)*256+ov (sw l) 3
def preL (l:List UInt8):Int:=rdV 32 (sr l)
theorem sw_len (l:List UInt8):(sw l).length<=l.length:=(cutc_len 47 l).1
theorem sr_len (l:List UInt8):(sr l).length<=l.length:=(cutc_len 47 l).2
def rdpF (l:List UInt8):Int:=if okP l=true then fault (preA l) (preL l) else 5
def rdpA (l:List UInt8):Int:=if rdpF l=0 then preA l else 0
def rdpL (l:List UInt8):Int:=if rdpF l=0 then preL l else 0
end Bur
namespace Go.Proofs.YtcjdoeclblhaeaaGreatDoor
open Go.RowKit
theorem printPrefix_no (a l:Int) (w:World) (h:Bur.fault a l≠0) :
  Calls Tryz.prog 53 #[pfx a l] w fun e w'=>e=.returned (.tuple #[.string ⟨#[]⟩,errN (Bur.fault a l)])/\Below w.heap.size w w':=by
 go_enter Tryz.func53,Tryz.ntmps53
 go_wp2_with (go_at_call 84;refine (check_no _ _ _ h).mono ?_;rintro e w' ⟨rfl,hc,hf,hs,hb⟩)
 go_ret2
 exact⟨rfl,below_via (below_al (below_al (below_self _) _) _) hb⟩
theorem printPrefix_ok (a l:Int) (w:World) (h:Bur.fault a l=0) (ht:Pow10 w) :
  Calls Tryz.prog 53 #[pfx a l] w fun e w'=>e=.returned (.tuple #[.string ⟨(Bur.txtP a l).toArray⟩,.nilIface])/\Below w.heap.size w w':=by
 obtain⟨h0,h1,a0,a1,hz⟩:=Bur.fault_ok h
 have ha:=Bur.isA_mk a0 a1
 have lt:=Bur.txt_len (a:=a / 16777216) (b:=a / 65536 % 256) (c:=a / 256 % 256) (d:=a % 256) (by omega) (by omega) (by omega) (by omega) (by omega) (by omega) (by omega) (by omega)
 have ll:=Bur.dec_len h0 (by omega)
 obtain⟨z1,Z1⟩:∃ z:List UInt8,Hid (z=Bur.txt (a / 16777216) (a / 65536 % 256) (a / 256 % 256) (a % 256) ++ [47]):=⟨Bur.txt (a / 16777216) (a / 65536 % 256) (a / 256 % 256) (a % 256) ++ [47],Eq.refl _⟩
 have e1:=cat (x:=Bur.txt (a / 16777216) (a / 65536 % 256) (a / 256 % 256) (a % 256)) (y:=[47]) Z1 (by omega) (by simp)
 have l1:z1.length<=16:=by rw[Z1.out];simp;omega
 obtain⟨z2,Z2⟩:∃ z:List UInt8,Hid (z=z1++Bur.dec l):=⟨_,Eq.refl _⟩
 have e2:=cat (x:=z1) (y:=Bur.dec l) Z2 (by omega) (by omega)
 have E:Hid (Bur.txtP a l=z2):=by show _=_;rw[Z2.out,Z1.out];simp[Bur.txtP,Bur.txtA]
 rw[E.out]
 go_enter Tryz.func53,Tryz.ntmps53
 go_wp2_with (go_at_call 84;refine (check_ok _ _ _ h).mono ?_;rintro e w' ⟨rfl,hc,hf,hs,hb⟩)
 have k0:w'.cell? ⟨w.heap.size,0,none⟩=some (.int .i64 a):=by go_simp
 have k1:w'.cell? ⟨w.heap.size,1,none⟩=some (.int .i64 l):=by go_simp
 replace ht:=((ht.alloc _).alloc _).step hb
 have hb':=below_via (below_al (below_al (below_self w) _) _) hb
 clear hc hf hs hb h hz lt ll l1
 go_region_held3 (fun w2=>w2.cell? ⟨w.heap.size,0,none⟩=some (.int .i64 a)/\w2.cell? ⟨w.heap.size,1,none⟩=some (.int .i64 l)) (go_simp)
  (first
   | (go_at_call 86;refine (split _ _ ha).mono ?_;rintro e w1 ⟨rfl,hb1⟩;have q1:=cell_later hb1 k0;have q2:=cell_later hb1 k1)
   | (go_at_call 85;refine (writeOctets _ _ _ _ _ (by exact Pow10.step (w:=w'.drew) ht hb1) (by omega) (by omega) (by omega) (by omega) (by omega) (by omega) (by omega) (by omega)).mono ?_;rintro e w2 ⟨rfl,hb2⟩;have q3:=cell_later hb2 q1;have q4:=cell_later hb2 q2)
   | (go_at_call 39;refine (itoa _ _ h0 (by omega) (by exact (Pow10.step (w:=w'.drew) ht hb1).step hb2)).mono ?_;rintro e w3 ⟨rfl,hb3⟩;have q5:=cell_later hb3 q3;have q6:=cell_later hb3 q4))
 go_wp2
 go_ret2
 exact⟨rfl,below_via (below_via (below_via hb'.drew hb1) hb2) hb3⟩
theorem cutSlash (l:List UInt8) (w:World) (hl:l.length<4294967281) (hm:MaxL w) :
  Calls Tryz.prog 6 #[.string ⟨l.toArray⟩,.string ⟨#[47]⟩] w fun e w'=>e=.returned (.tuple #[.string ⟨(Bur.sw l).toArray⟩,.string ⟨(Bur.sr l).toArray⟩,.bool (Bur.sf l)]) /\ ∃ n,w'=w.drewN n:=cutAt l 47 w hl hm
def rpA (l:List UInt8):Int:=if Bur.okP l=true then Bur.preA l else 0
def rpL (l:List UInt8):Int:=if Bur.okP l=true then Bur.preL l else 0
theorem readPrefix (l:List UInt8) (w:World) (hl:l.length<4294967281) (hm:MaxL w) :
  Calls Tryz.prog 159 #[.string ⟨l.toArray⟩] w fun e w'=>e=.returned (.tuple #[pfx (rpA l) (rpL l),.bool (Bur.okP l)])/\Below w.heap.size w w':=by
 have hwl:=Bur.sw_len l
 have hrl:=Bur.sr_len l
 have cP:=Pf.new w 0 0
 go_enter Tryz.func159,Tryz.ntmps159
 go_wp2_with fail
 refine (cutSlash _ _ hl (hm.alloc _)).mono ?_;rintro e w1 ⟨rfl,n1,rfl⟩
 have hb1:Below (w.alloc (pcs 0 0)).heap.size (w.alloc (pcs 0 0)) ((w.alloc (pcs 0 0)).drewN n1):=below_drewN (below_self _) n1
 replace cP:=cP.step hb1
 replace hm:=(hm.alloc _).step hb1
 have hbw:=below_via (below_al (below_self w) _) hb1
 clear hb1
 generalize (w.alloc (pcs 0 0)).drewN n1=W1 at *
 cases h1:Bur.sf l
 ·have ⟨c0,c1,z0,z1,_⟩:=cP
  have E:Hid (Bur.okP l=false):=by show _=_;simp[Bur.okP,h1]
  go_wp2
  rw[show rpA l=0 from if_neg (by simp[E.out]),show rpL l=0 from if_neg (by simp[E.out]),E.out]
  exact bodyPost_ret (v:=.tuple #[pfx 0 0,.bool false]) (by simp[results,Tryz.results159,go_sem,c0,c1]) rfl ⟨rfl,(hbw.setCell (by simp) _).setCell (by simp) _⟩
 go_wp2_with fail
 refine (readOctets _ _ (by omega) hm).mono ?_;rintro e w2 ⟨rfl,hb2⟩
 replace cP:=cP.step hb2
 replace hbw:=below_via hbw hb2
 clear hb2
 have ⟨c0,c1,z0,z1,clt⟩:=cP
 cases h2:Bur.okO (Bur.sw l)
 ·have hv:=octV_no h2
  have E:Hid (Bur.okP l=false):=by show _=_;simp[Bur.okP,h2]
  go_wp2
  rw[show rpA l=0 from if_neg (by simp[E.out]),show rpL l=0 from if_neg (by simp[E.out]),E.out]
  exact bodyPost_ret (v:=.tuple #[pfx 0 0,.bool false]) (by simp[results,Tryz.results159,go_sem,c0,c1,clt]) rfl ⟨rfl,by repeat (first|exact hbw|refine Below.setCell ?_ (by simp) _|refine below_al ?_ _)⟩
 have hv:=octV_ok h2
 have b0:=Bur.ov_bd (Bur.sw l) 0
 have b1:=Bur.ov_bd (Bur.sw l) 1
 have b2:=Bur.ov_bd (Bur.sw l) 2
 have b3:=Bur.ov_bd (Bur.sw l) 3
 have b4:=Bur.rdV_bd 32 (Bur.sr l) (by decide)
 go_wp2_with fail
 refine (readNum _ 32 _ (by decide) (by decide) (by omega)).mono ?_;rintro e w3 ⟨rfl,rfl⟩
 cases h3:Bur.rdB 32 (Bur.sr l)
 ·have E:Hid (Bur.okP l=false):=by show _=_;simp[Bur.okP,h3]
  go_wp2
  rw[show rpA l=0 from if_neg (by simp[E.out]),show rpL l=0 from if_neg (by simp[E.out]),E.out]
  exact bodyPost_ret (v:=.tuple #[pfx 0 0,.bool false]) (by simp[results,Tryz.results159,go_sem,c0,c1,clt]) rfl ⟨rfl,by repeat (first|exact hbw|refine Below.setCell ?_ (by simp) _|refine below_al ?_ _)⟩
 have E:Hid (Bur.okP l=true):=by show _=_;simp[Bur.okP,h1,h2,h3]
 go_wp2_with (go_at_call 161;refine (join _ _ _ _ _ b0.1 b0.2 b1.1 b1.2 b2.1 b2.2 b3.1 b3.2).mono ?_;rintro e w4 ⟨rfl,rfl⟩)
 rw[show rpA l=Bur.preA l from if_pos E.out,show rpL l=Bur.preL l from if_pos E.out,E.out]
 exact bodyPost_ret (v:=.tuple #[pfx (Bur.preA l) (Bur.preL l),.bool true]) (by simp[results,Tryz.results159,go_sem,c0,c1,clt,Bur.preA,Bur.preL]) rfl ⟨rfl,by repeat (first|exact hbw|refine Below.setCell ?_ (by simp) _|refine below_al ?_ _)⟩
end Go.Proofs.YtcjdoeclblhaeaaGreatDoor
namespace Bur
open Go
def decS (n:Nat):List UInt8:=if n<10 then [UInt8.ofNat (48+n)] else if n<100 then [UInt8.ofNat (48+n / 10),UInt8.ofNat (48+n % 10)] else [UInt8.ofNat (48+n / 10 / 10),UInt8.ofNat (48+n / 10 % 10),UInt8.ofNat (48+n % 10)]
end Bur
namespace Go.Proofs.YtcjdoeclblhaeaaGreatDoor
open Go.RowKit
theorem parsePrefix (l:List UInt8) (w:World) (hl:l.length<4294967281) (hm:MaxL w) :
  Calls Tryz.prog 114 #[.string ⟨l.toArray⟩] w fun e w'=>e=.returned (.tuple #[pfx (Bur.rdpA l) (Bur.rdpL l),ev (Bur.rdpF l)])/\Below w.heap.size w w':=by
 have cP:=Pf.new w 0 0
 cases hk:Bur.okP l
 ·have e5:Bur.rdpF l=5:=if_neg (by simp[hk])
  rw[show Bur.rdpA l=0 from if_neg (by simp[e5]),show Bur.rdpL l=0 from if_neg (by simp[e5]),e5,ev_ne (by decide)]
  clear e5
  go_enter Tryz.func114,Tryz.ntmps114
  go_wp2_with fail
  refine (readPrefix _ _ hl (hm.alloc _)).mono ?_;rintro e w1 ⟨rfl,hb⟩
  replace cP:=cP.step hb
  have ⟨c0,c1,z0,z1,clt⟩:=cP
  rw[hk]
  go_wp2
  exact bodyPost_ret (v:=.tuple #[pfx 0 0,errN 5]) (by simp[results,Tryz.results114,go_sem,c0,c1,clt]) rfl ⟨rfl,by repeat (first|exact below_via (below_al (below_self w) _) hb|refine Below.setCell ?_ (by simp) _|refine below_al ?_ _)⟩
 ·have ef:Bur.rdpF l=Bur.fault (Bur.preA l) (Bur.preL l):=if_pos hk
  have hA:rpA l=Bur.preA l:=if_pos hk
  have hL:rpL l=Bur.preL l:=if_pos hk
  by_cases hf:Bur.fault (Bur.preA l) (Bur.preL l)=0
  ·rw[show Bur.rdpA l=Bur.preA l from if_pos (by rw[ef,hf]),show Bur.rdpL l=Bur.preL l from if_pos (by rw[ef,hf]),ef,hf,ev_0]
   clear ef
   go_enter Tryz.func114,Tryz.ntmps114
   go_wp2_with fail
   refine (readPrefix _ _ hl (hm.alloc _)).mono ?_;rintro e w1 ⟨rfl,hb⟩
   replace cP:=cP.step hb
   rw[hk,hA,hL]
   clear hA hL
   go_wp2_with fail
   refine (check_ok _ _ _ hf).mono ?_;rintro e w2 ⟨rfl,hc,hf2,hs,hb2⟩
   have cQ:=((Pf.new w1 (Bur.preA l) (Bur.preL l)).alloc _).step hb2
   replace cP:=((cP.alloc _).alloc _).step hb2
   have hlt:w.heap.size<w1.heap.size:=by have:=hb.size;simp at this;omega
   clear hc hf2 hs
   have ⟨c0,c1,z0,z1,clt⟩:=cP
   have ⟨d0,d1,_,_,dlt⟩:=cQ
   go_wp2
   exact bodyPost_ret (v:=.tuple #[pfx (Bur.preA l) (Bur.preL l),.nilIface]) (by simp[results,Tryz.results114,go_sem,c0,c1]) rfl ⟨rfl,by repeat (first|exact below_via (below_al (below_al (below_via (below_al (below_self w) _) hb) _) _) hb2|refine Below.setCell ?_ (by simp) _|refine below_al ?_ _)⟩
  ·rw[show Bur.rdpA l=0 from if_neg (by rw[ef];exact hf),show Bur.rdpL l=0 from if_neg (by rw[ef];exact hf),ef,ev_ne hf]
   clear ef
   go_enter Tryz.func114,Tryz.ntmps114
   go_wp2_with fail
   refine (readPrefix _ _ hl (hm.alloc _)).mono ?_;rintro e w1 ⟨rfl,hb⟩
   replace cP:=cP.step hb
   rw[hk,hA,hL]
   clear hA hL
   go_wp2_with fail
   refine (check_no _ _ _ hf).mono ?_;rintro e w2 ⟨rfl,hc,hf2,hs,hb2⟩
   replace cP:=((cP.alloc _).alloc _).step hb2
   clear hc hf2 hs
   have ⟨c0,c1,z0,z1,clt⟩:=cP
   go_wp2
   exact bodyPost_ret (v:=.tuple #[pfx 0 0,errN (Bur.fault (Bur.preA l) (Bur.preL l))]) (by simp[results,Tryz.results114,go_sem,c0,c1]) rfl ⟨rfl,by repeat (first|exact below_via (below_al (below_al (below_via (below_al (below_self w) _) hb) _) _) hb2|refine Below.setCell ?_ (by simp) _|refine below_al ?_ _)⟩
end Go.Proofs.YtcjdoeclblhaeaaGreatDoor
namespace Go.Proofs.YtcjdoeclblhaeaaGreatDoor.Rn
open Go Pa Vs
def pfW (w:List UInt8):Rw Bur.Sp:=byF (Bur.rdpF w) (Bur.rdpA w,Bur.rdpL w)
def adW (w:List UInt8):Rw Int:=byF (Bur.adrF w) (Bur.adr w)
def clK (k:Nat) (a b c e:List UInt8):Rw Cl:=
 if k=1 then .ok ⟨1,txt a,(0,0),0,0,txt b⟩
 else if k=2 then (pfW b).map fun p=>⟨2,txt a,p,0,0,txt c⟩
 else if k=3 then (pfW b).map fun p=>⟨3,txt a,p,0,0,txt []⟩
 else if k=4 then (adW b).map fun x=>⟨4,txt a,(0,0),0,x,txt c⟩
 else if k=5 then (adW b).map fun x=>⟨5,txt a,(0,0),0,x,txt []⟩
 else if k=6 then (nmW c).bind fun n=>(pfW b).map fun p=>⟨6,txt a,p,n,0,txt e⟩
 else if k=7 then (pfW b).map fun p=>⟨7,txt a,p,0,0,txt c⟩
 else if k=8 then .ok ⟨8,txt a,(0,0),0,0,txt []⟩
 else if k=9 then (adW b).map fun x=>⟨9,txt a,(0,0),0,x,txt []⟩
 else .error 0
def clW (v:List UInt8) (ws:List (List UInt8)):Rw Cl:=clK (kd v ws.length) (wd ws 0) (wd ws 1) (wd ws 2) (wd ws 3)
def ppW (p:Bur.Sp):Rw (List UInt8):=byF (Bur.fault p.1 p.2) (Bur.txtP p.1 p.2)
def ppL:List Bur.Sp->Rw (List (List UInt8))
 | []=>.ok []
 | p :: r=>(ppW p).bind fun t=>(ppL r).map fun l=>t :: l
def lsT (l:List (List UInt8)):List UInt8:=if l=[] then [45] else Lib.join l [32]
def anT (k:Int) (a:An):Rw (List UInt8):=
 if k=6 then ppW a.p
 else if k=7 then byF (if Bur.isA a.ad=true then 0 else 1) (Bur.txtA a.ad)
 else if k=8 then (ppL a.l).map lsT
 else if k=9 then .ok a.ow.data.toList
 else .ok okT
theorem clW_len {v:List UInt8} {ws:List (List UInt8)} {c:Cl} (h:clW v ws=.ok c):3<=v.length:=by
 refine kd_len (n:=ws.length) fun e=>?_
 unfold clW at h
 rw[e] at h
 cases h
end Go.Proofs.YtcjdoeclblhaeaaGreatDoor.Rn
