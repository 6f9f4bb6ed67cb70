/- -/
import Derived.Test.YtmghmpclmphccaaGreatDoorTPlR
import Derived.Test.YtmghmpclmphccaaGreatDoorTVsMath
import Derived.Test.YtmghmpclmphccaaGreatDoorTVsBase
import Derived.Test.YtmghmpclmphccaaGreatDoorTMpHeld
set_option maxHeartbeats 16000000
set_option maxRecDepth 100000
namespace Go.Proofs.YtmghmpclmphccaaGreatDoor.Pa
open Go.RowKit Go.Maps Vs
section
variable {T:Td} {F F1:Nat->Prop} {B:Nat} {d1:Dk}
theorem plDo2 (V:DFace T) (c:Cl) (i:Int) (is:Bool) {w wx:World} {c4 c6 c7 c8 c9 c10 c11 c12 c13 c14 c15 c16 c17 c18 c19 c20 c21 c22 c23 c24 c25 c26 c27 c28 c29 c30 c31 c32 c33 c34 c35 c36 c37 c38 c39 c40 c41 c42 c43 c44 c45 c46 c47 c48 c49 c50 c51 c52 c53 c54 c55 c56 c57 c58 c59 c60 c61 c62 c63 c64 c65 c66 c67 c68 c69 c70 c71 c72 c73 c74 c75 c76 c77 c78 c79 c80 c81 c82 c83 c84 c85 c86 c87:Value} (en:En w) (h:Ds T wx F1 B d1) (ok:OkD d1) (sm:Sm d1) (hcl:clF c=0) (wk:Wk wx w.heap.size B c i) (ab:Ab wx (w.heap.size+1) (.int .i64 0) (.int .i64 0) (.int .i64 0) (.string ⟨#[]⟩) (.slice none 0 0)) (n2:¬ F1 (w.heap.size+1)) (hN:∀ j,F1 j->Nw F w wx j) (hB:But F w wx) :
  Code.wp Tryz.prog (dropSeq 2 (Tryz.f63.body.getD .skip)) (bodyPost Tryz.prog Tryz.f63 fun e w'=>DoPost T F w B (runD (pBody c is) d1 i) (runA (pBody c is) d1 i) (runF (pBody c is) d1 i) e w') ⟨#[wkV B c i,.pointer (some ⟨w.heap.size,0,none⟩),.pointer (some ⟨w.heap.size+1,0,none⟩),.nilIface,c4,.bool is,c6,c7,c8,c9,c10,c11,c12,c13,c14,c15,c16,c17,c18,c19,c20,c21,c22,c23,c24,c25,c26,c27,c28,c29,c30,c31,c32,c33,c34,c35,c36,c37,c38,c39,c40,c41,c42,c43,c44,c45,c46,c47,c48,c49,c50,c51,c52,c53,c54,c55,c56,c57,c58,c59,c60,c61,c62,c63,c64,c65,c66,c67,c68,c69,c70,c71,c72,c73,c74,c75,c76,c77,c78,c79,c80,c81,c82,c83,c84,c85,c86,c87],[]⟩ wx:=by
 conv=>arg 2;whnf
 obtain⟨hw1,hw9,hnm⟩:=clF_in hcl
 have hn:c.nm.size<=1000:=by omega
 obtain⟨k0,k1,k2,k3,k4,k5,k6,k7,k8⟩:=id wk
 have lab:=ab.lt
 have FIN:=fun {w5 wf:World} {F5:Nat->Prop} {d':Dk} (h5:Ds T w5 F5 B d') (hn5:∀ j,F5 j->Nw F1 wx w5 j) (b5:But F1 wx w5) (hb:But (fun j=>j=w.heap.size+1) w5 wf)=>do_fin (F:=F) V en hB hN h5 hn5 b5 (Nat.le_succ _) lab n2 hb
 have FH:Hid _:=@FIN
 clear FIN
 obtain⟨bb,hbb⟩:∃ bb,bb=w.heap.size:=⟨_,rfl⟩
 have HBB:Hid (bb=w.heap.size):=hbb
 cases is with
 | false=>
  by_cases hk:c.what=1
  ·have how:=clF_ow hcl (.inl hk)
   have eB:pBody c false=puts (kN c.nm) c.ow an0:=by unfold pBody;rw[if_pos hk];rfl
   obtain⟨p1,p2,p3,p4⟩:=puts_is (d:=d1) (i:=i) (k:=kN c.nm) (v:=c.ow) an0
   rw[<- eB] at p1 p2 p3 p4
   obtain⟨E,hE⟩:∃ E,Hid (E=ev (dcF d1 i ⟨kN c.nm,c.ow,false⟩)):=⟨_,rfl⟩
   have E1:Hid (ev (runF (pBody c false) d1 i)=E):=(congrArg ev p1).trans hE.out.symm
   have E2:Hid (runD (pBody c false) d1 i=dcD d1 i ⟨kN c.nm,c.ow,false⟩):=p2
   have E3:Hid (runA (pBody c false) d1 i=an0):=by
    by_cases g:dcF d1 i ⟨kN c.nm,c.ow,false⟩=0
    ·exact p3 g
    ·exact p4 g
   have K:=plNetPut V c i h ok sm hn (by unfold maxLen;omega)
   rw[<- hE.out] at K
   have z1:(c.what==1)=true:=by rw[hk];rfl
   have z2:(c.what==2)=false:=by rw[hk];rfl
   have z3:(c.what==3)=false:=by rw[hk];rfl
   have z4:(c.what==4)=false:=by rw[hk];rfl
   have z5:(c.what==5)=false:=by rw[hk];rfl
   have z6:(c.what==6)=false:=by rw[hk];rfl
   have z7:(c.what==7)=false:=by rw[hk];rfl
   have z8:(c.what==8)=false:=by rw[hk];rfl
   have z9:(c.what==9)=false:=by rw[hk];rfl
   have zn:(c.what != 1)=false:=by rw[hk];rfl
   clear p1 p2 p3 p4 eB hk hw1 hw9
   go_wp2_with (go_at_call 97;refine K.mono ?_;clear K;rintro e w5 ⟨rfl,hj5⟩;obtain⟨F5,h5,hn5⟩:=hj5.ex;have b5:=hj5.bt;have ab5:=ab.but b5 n2;obtain⟨a0,a1,a2,a3,a4,af0,af1,af2,af3,af4⟩:=id ab5)
   exact bodyPost_ret (v:=.tuple #[anV an0 (.slice none 0 0),E]) (by simp[results,Tryz.results63,go_sem,an0,(ab5.all (.int .i64 0) (.int .i64 0) (.int .i64 0) (.string ⟨#[]⟩) (.slice none 0 0)).c0,(ab5.all (.int .i64 0) (.int .i64 0) (.int .i64 0) (.string ⟨#[]⟩) (.slice none 0 0)).c1,(ab5.all (.int .i64 0) (.int .i64 0) (.int .i64 0) (.string ⟨#[]⟩) (.slice none 0 0)).c2,(ab5.all (.int .i64 0) (.int .i64 0) (.int .i64 0) (.string ⟨#[]⟩) (.slice none 0 0)).c3,(ab5.all (.int .i64 0) (.int .i64 0) (.int .i64 0) (.string ⟨#[]⟩) (.slice none 0 0)).c4];rfl) rfl ⟨.slice none 0 0,by rw[E3.out,E1.out],F5,by rw[E2.out];exact (FH.out h5 hn5 b5 (but_5 _ (But.refl _ _) _ _ _ _ _)).1,(FH.out h5 hn5 b5 (but_5 _ (But.refl _ _) _ _ _ _ _)).2.1,(FH.out h5 hn5 b5 (but_5 _ (But.refl _ _) _ _ _ _ _)).2.2,by rw[E3.out];exact World.ownsRow_nil _ _ _ _,fun j hj=>by cases hj⟩
  ·have eB:pBody c false=err 4:=by unfold pBody;rw[if_neg hk,if_pos rfl]
   have E1:Hid (ev (runF (pBody c false) d1 i)=errN 4):=by show _=_;rw[eB];rfl
   have E2:Hid (runD (pBody c false) d1 i=d1):=by show _=_;rw[eB];rfl
   have E3:Hid (runA (pBody c false) d1 i=an0):=by show _=_;rw[eB];rfl
   have zn:(c.what != 1)=true:=by simp[hk]
   have ab5:=ab
   obtain⟨a0,a1,a2,a3,a4,af0,af1,af2,af3,af4⟩:=id ab
   clear hk eB hw1 hw9
   go_wp2_with fail
   exact bodyPost_ret (v:=.tuple #[anV an0 (.slice none 0 0),errN 4]) (by simp[results,Tryz.results63,go_sem,an0,(ab5.all (.int .i64 0) (.int .i64 0) (.int .i64 0) (.string ⟨#[]⟩) (.slice none 0 0)).c0,(ab5.all (.int .i64 0) (.int .i64 0) (.int .i64 0) (.string ⟨#[]⟩) (.slice none 0 0)).c1,(ab5.all (.int .i64 0) (.int .i64 0) (.int .i64 0) (.string ⟨#[]⟩) (.slice none 0 0)).c2,(ab5.all (.int .i64 0) (.int .i64 0) (.int .i64 0) (.string ⟨#[]⟩) (.slice none 0 0)).c3,(ab5.all (.int .i64 0) (.int .i64 0) (.int .i64 0) (.string ⟨#[]⟩) (.slice none 0 0)).c4];rfl) rfl ⟨.slice none 0 0,by rw[E3.out,E1.out],F1,by rw[E2.out];exact (FH.out h (fun _ hj=>.inl hj) (But.refl _ _) (but_5 _ (But.refl _ _) _ _ _ _ _)).1,(FH.out h (fun _ hj=>.inl hj) (But.refl _ _) (but_5 _ (But.refl _ _) _ _ _ _ _)).2.1,(FH.out h (fun _ hj=>.inl hj) (But.refl _ _) (but_5 _ (But.refl _ _) _ _ _ _ _)).2.2,by rw[E3.out];exact World.ownsRow_nil _ _ _ _,fun j hj=>by cases hj⟩
 | true=>
  have hk:c.what=1 \/ c.what=2 \/ c.what=3 \/ c.what=4 \/ c.what=5 \/ c.what=6 \/ c.what=7 \/ c.what=8 \/ c.what=9:=by omega
  clear hw1 hw9
  rcases hk with hk|hk|hk|hk|hk|hk|hk|hk|hk
  ·skip
   have eB:pBody c true=err 6:=by unfold pBody;rw[if_pos hk];rfl
   have E1:Hid (ev (runF (pBody c true) d1 i)=errN 6):=by show _=_;rw[eB];rfl
   have E2:Hid (runD (pBody c true) d1 i=d1):=by show _=_;rw[eB];rfl
   have E3:Hid (runA (pBody c true) d1 i=an0):=by show _=_;rw[eB];rfl
   have K:=plNetNo V c i h
   have z1:(c.what==1)=true:=by rw[hk];rfl
   have z2:(c.what==2)=false:=by rw[hk];rfl
   have z3:(c.what==3)=false:=by rw[hk];rfl
   have z4:(c.what==4)=false:=by rw[hk];rfl
   have z5:(c.what==5)=false:=by rw[hk];rfl
   have z6:(c.what==6)=false:=by rw[hk];rfl
   have z7:(c.what==7)=false:=by rw[hk];rfl
   have z8:(c.what==8)=false:=by rw[hk];rfl
   have z9:(c.what==9)=false:=by rw[hk];rfl
   have zn:(c.what != 1)=false:=by rw[hk];rfl
   clear eB hk
   go_wp2_with (go_at_call 97;refine K.mono ?_;clear K;rintro e w5 ⟨rfl,hj5⟩;obtain⟨F5,h5,hn5⟩:=hj5.ex;have b5:=hj5.bt;have ab5:=ab.but b5 n2;obtain⟨a0,a1,a2,a3,a4,af0,af1,af2,af3,af4⟩:=id ab5)
   exact bodyPost_ret (v:=.tuple #[anV an0 (.slice none 0 0),errN 6]) (by simp[results,Tryz.results63,go_sem,an0,(ab5.all (.int .i64 0) (.int .i64 0) (.int .i64 0) (.string ⟨#[]⟩) (.slice none 0 0)).c0,(ab5.all (.int .i64 0) (.int .i64 0) (.int .i64 0) (.string ⟨#[]⟩) (.slice none 0 0)).c1,(ab5.all (.int .i64 0) (.int .i64 0) (.int .i64 0) (.string ⟨#[]⟩) (.slice none 0 0)).c2,(ab5.all (.int .i64 0) (.int .i64 0) (.int .i64 0) (.string ⟨#[]⟩) (.slice none 0 0)).c3,(ab5.all (.int .i64 0) (.int .i64 0) (.int .i64 0) (.string ⟨#[]⟩) (.slice none 0 0)).c4];rfl) rfl ⟨.slice none 0 0,by rw[E3.out,E1.out],F5,by rw[E2.out];exact (FH.out h5 hn5 b5 (but_5 _ (But.refl _ _) _ _ _ _ _)).1,(FH.out h5 hn5 b5 (but_5 _ (But.refl _ _) _ _ _ _ _)).2.1,(FH.out h5 hn5 b5 (but_5 _ (But.refl _ _) _ _ _ _ _)).2.2,by rw[E3.out];exact World.ownsRow_nil _ _ _ _,fun j hj=>by cases hj⟩
  ·skip
   obtain⟨g0,g1,g2,g3,_⟩:=Bur.fault_ok (clF_p hcl (by omega))
   have eB:pBody c true=pAdd c:=by unfold pBody;rw[if_neg (by rw[hk];decide),if_neg (by decide),if_pos hk]
   rw[eB]
   have K:=plAdd V c i h ok sm hn (by have:=clF_ow hcl (by omega);unfold maxLen;omega) g2 g3 g0 (by omega)
   obtain⟨E,hE⟩:∃ E,Hid (E=ev (runF (pAdd c) d1 i)):=⟨_,rfl⟩
   have E1:Hid (ev (runF (pAdd c) d1 i)=E):=hE.out.symm
   have E3:Hid (runA (pAdd c) d1 i=an0):=runA_add c d1 i
   rw[<- hE.out] at K
   have z1:(c.what==1)=false:=by rw[hk];rfl
   have z2:(c.what==2)=true:=by rw[hk];rfl
   have z3:(c.what==3)=false:=by rw[hk];rfl
   have z4:(c.what==4)=false:=by rw[hk];rfl
   have z5:(c.what==5)=false:=by rw[hk];rfl
   have z6:(c.what==6)=false:=by rw[hk];rfl
   have z7:(c.what==7)=false:=by rw[hk];rfl
   have z8:(c.what==8)=false:=by rw[hk];rfl
   have z9:(c.what==9)=false:=by rw[hk];rfl
   have zn:(c.what != 1)=true:=by rw[hk];rfl
   clear eB hk
   go_wp2_with (go_at_call 98;refine K.mono ?_;clear K;rintro e w5 ⟨rfl,hj5⟩;obtain⟨F5,h5,hn5⟩:=hj5.ex;have b5:=hj5.bt;have ab5:=ab.but b5 n2;obtain⟨a0,a1,a2,a3,a4,af0,af1,af2,af3,af4⟩:=id ab5)
   exact bodyPost_ret (v:=.tuple #[anV an0 (.slice none 0 0),E]) (by simp[results,Tryz.results63,go_sem,an0,(ab5.all (.int .i64 0) (.int .i64 0) (.int .i64 0) (.string ⟨#[]⟩) (.slice none 0 0)).c0,(ab5.all (.int .i64 0) (.int .i64 0) (.int .i64 0) (.string ⟨#[]⟩) (.slice none 0 0)).c1,(ab5.all (.int .i64 0) (.int .i64 0) (.int .i64 0) (.string ⟨#[]⟩) (.slice none 0 0)).c2,(ab5.all (.int .i64 0) (.int .i64 0) (.int .i64 0) (.string ⟨#[]⟩) (.slice none 0 0)).c3,(ab5.all (.int .i64 0) (.int .i64 0) (.int .i64 0) (.string ⟨#[]⟩) (.slice none 0 0)).c4];rfl) rfl ⟨.slice none 0 0,by rw[E3.out,E1.out],F5,(FH.out h5 hn5 b5 (but_5 _ (But.refl _ _) _ _ _ _ _)).1,(FH.out h5 hn5 b5 (but_5 _ (But.refl _ _) _ _ _ _ _)).2.1,(FH.out h5 hn5 b5 (but_5 _ (But.refl _ _) _ _ _ _ _)).2.2,by rw[E3.out];exact World.ownsRow_nil _ _ _ _,fun j hj=>by cases hj⟩
  ·skip
   obtain⟨g0,g1,g2,g3,_⟩:=Bur.fault_ok (clF_p hcl (by omega))
   have eB:pBody c true=pTake c:=by unfold pBody;rw[if_neg (by rw[hk];decide),if_neg (by decide),if_neg (by rw[hk];decide),if_pos hk]
   rw[eB]
   have K:=plTake V c i h ok sm hn g2 g3 g0 (by omega)
   obtain⟨E,hE⟩:∃ E,Hid (E=ev (runF (pTake c) d1 i)):=⟨_,rfl⟩
   have E1:Hid (ev (runF (pTake c) d1 i)=E):=hE.out.symm
   have E3:Hid (runA (pTake c) d1 i=an0):=runA_take c d1 i
   rw[<- hE.out] at K
   have z1:(c.what==1)=false:=by rw[hk];rfl
   have z2:(c.what==2)=false:=by rw[hk];rfl
   have z3:(c.what==3)=true:=by rw[hk];rfl
   have z4:(c.what==4)=false:=by rw[hk];rfl
   have z5:(c.what==5)=false:=by rw[hk];rfl
   have z6:(c.what==6)=false:=by rw[hk];rfl
   have z7:(c.what==7)=false:=by rw[hk];rfl
   have z8:(c.what==8)=false:=by rw[hk];rfl
   have z9:(c.what==9)=false:=by rw[hk];rfl
   have zn:(c.what != 1)=true:=by rw[hk];rfl
   clear eB hk
   go_wp2_with (go_at_call 99;refine K.mono ?_;clear K;rintro e w5 ⟨rfl,hj5⟩;obtain⟨F5,h5,hn5⟩:=hj5.ex;have b5:=hj5.bt;have ab5:=ab.but b5 n2;obtain⟨a0,a1,a2,a3,a4,af0,af1,af2,af3,af4⟩:=id ab5)
   exact bodyPost_ret (v:=.tuple #[anV an0 (.slice none 0 0),E]) (by simp[results,Tryz.results63,go_sem,an0,(ab5.all (.int .i64 0) (.int .i64 0) (.int .i64 0) (.string ⟨#[]⟩) (.slice none 0 0)).c0,(ab5.all (.int .i64 0) (.int .i64 0) (.int .i64 0) (.string ⟨#[]⟩) (.slice none 0 0)).c1,(ab5.all (.int .i64 0) (.int .i64 0) (.int .i64 0) (.string ⟨#[]⟩) (.slice none 0 0)).c2,(ab5.all (.int .i64 0) (.int .i64 0) (.int .i64 0) (.string ⟨#[]⟩) (.slice none 0 0)).c3,(ab5.all (.int .i64 0) (.int .i64 0) (.int .i64 0) (.string ⟨#[]⟩) (.slice none 0 0)).c4];rfl) rfl ⟨.slice none 0 0,by rw[E3.out,E1.out],F5,(FH.out h5 hn5 b5 (but_5 _ (But.refl _ _) _ _ _ _ _)).1,(FH.out h5 hn5 b5 (but_5 _ (But.refl _ _) _ _ _ _ _)).2.1,(FH.out h5 hn5 b5 (but_5 _ (But.refl _ _) _ _ _ _ _)).2.2,by rw[E3.out];exact World.ownsRow_nil _ _ _ _,fun j hj=>by cases hj⟩
  ·skip
   obtain⟨_,_,g2,g3,_⟩:=Bur.fault_ok (clF_a hcl (by omega))
   have eB:pBody c true=pPlace c:=by unfold pBody;rw[if_neg (by rw[hk];decide),if_neg (by decide),if_neg (by rw[hk];decide),if_neg (by rw[hk];decide),if_pos hk]
   rw[eB]
   have K:=plPlace V c i h ok sm hn (by have:=clF_ow hcl (by omega);unfold maxLen;omega) g2 g3
   obtain⟨E,hE⟩:∃ E,Hid (E=ev (runF (pPlace c) d1 i)):=⟨_,rfl⟩
   have E1:Hid (ev (runF (pPlace c) d1 i)=E):=hE.out.symm
   have E3:Hid (runA (pPlace c) d1 i=an0):=runA_place c d1 i
   rw[<- hE.out] at K
   have z1:(c.what==1)=false:=by rw[hk];rfl
   have z2:(c.what==2)=false:=by rw[hk];rfl
   have z3:(c.what==3)=false:=by rw[hk];rfl
   have z4:(c.what==4)=true:=by rw[hk];rfl
   have z5:(c.what==5)=false:=by rw[hk];rfl
   have z6:(c.what==6)=false:=by rw[hk];rfl
   have z7:(c.what==7)=false:=by rw[hk];rfl
   have z8:(c.what==8)=false:=by rw[hk];rfl
   have z9:(c.what==9)=false:=by rw[hk];rfl
   have zn:(c.what != 1)=true:=by rw[hk];rfl
   clear eB hk
   go_wp2_with (go_at_call 100;refine K.mono ?_;clear K;rintro e w5 ⟨rfl,hj5⟩;obtain⟨F5,h5,hn5⟩:=hj5.ex;have b5:=hj5.bt;have ab5:=ab.but b5 n2;obtain⟨a0,a1,a2,a3,a4,af0,af1,af2,af3,af4⟩:=id ab5)
   exact bodyPost_ret (v:=.tuple #[anV an0 (.slice none 0 0),E]) (by simp[results,Tryz.results63,go_sem,an0,(ab5.all (.int .i64 0) (.int .i64 0) (.int .i64 0) (.string ⟨#[]⟩) (.slice none 0 0)).c0,(ab5.all (.int .i64 0) (.int .i64 0) (.int .i64 0) (.string ⟨#[]⟩) (.slice none 0 0)).c1,(ab5.all (.int .i64 0) (.int .i64 0) (.int .i64 0) (.string ⟨#[]⟩) (.slice none 0 0)).c2,(ab5.all (.int .i64 0) (.int .i64 0) (.int .i64 0) (.string ⟨#[]⟩) (.slice none 0 0)).c3,(ab5.all (.int .i64 0) (.int .i64 0) (.int .i64 0) (.string ⟨#[]⟩) (.slice none 0 0)).c4];rfl) rfl ⟨.slice none 0 0,by rw[E3.out,E1.out],F5,(FH.out h5 hn5 b5 (but_5 _ (But.refl _ _) _ _ _ _ _)).1,(FH.out h5 hn5 b5 (but_5 _ (But.refl _ _) _ _ _ _ _)).2.1,(FH.out h5 hn5 b5 (but_5 _ (But.refl _ _) _ _ _ _ _)).2.2,by rw[E3.out];exact World.ownsRow_nil _ _ _ _,fun j hj=>by cases hj⟩
  ·skip
   obtain⟨_,_,g2,g3,_⟩:=Bur.fault_ok (clF_a hcl (by omega))
   have eB:pBody c true=pLeave c:=by unfold pBody;rw[if_neg (by rw[hk];decide),if_neg (by decide),if_neg (by rw[hk];decide),if_neg (by rw[hk];decide),if_neg (by rw[hk];decide),if_pos hk]
   rw[eB]
   have K:=plLeave V c i h ok sm hn g2 g3
   obtain⟨E,hE⟩:∃ E,Hid (E=ev (runF (pLeave c) d1 i)):=⟨_,rfl⟩
   have E1:Hid (ev (runF (pLeave c) d1 i)=E):=hE.out.symm
   have E3:Hid (runA (pLeave c) d1 i=an0):=runA_leave c d1 i
   rw[<- hE.out] at K
   have z1:(c.what==1)=false:=by rw[hk];rfl
   have z2:(c.what==2)=false:=by rw[hk];rfl
   have z3:(c.what==3)=false:=by rw[hk];rfl
   have z4:(c.what==4)=false:=by rw[hk];rfl
   have z5:(c.what==5)=true:=by rw[hk];rfl
   have z6:(c.what==6)=false:=by rw[hk];rfl
   have z7:(c.what==7)=false:=by rw[hk];rfl
   have z8:(c.what==8)=false:=by rw[hk];rfl
   have z9:(c.what==9)=false:=by rw[hk];rfl
   have zn:(c.what != 1)=true:=by rw[hk];rfl
   clear eB hk
   go_wp2_with (go_at_call 101;refine K.mono ?_;clear K;rintro e w5 ⟨rfl,hj5⟩;obtain⟨F5,h5,hn5⟩:=hj5.ex;have b5:=hj5.bt;have ab5:=ab.but b5 n2;obtain⟨a0,a1,a2,a3,a4,af0,af1,af2,af3,af4⟩:=id ab5)
   exact bodyPost_ret (v:=.tuple #[anV an0 (.slice none 0 0),E]) (by simp[results,Tryz.results63,go_sem,an0,(ab5.all (.int .i64 0) (.int .i64 0) (.int .i64 0) (.string ⟨#[]⟩) (.slice none 0 0)).c0,(ab5.all (.int .i64 0) (.int .i64 0) (.int .i64 0) (.string ⟨#[]⟩) (.slice none 0 0)).c1,(ab5.all (.int .i64 0) (.int .i64 0) (.int .i64 0) (.string ⟨#[]⟩) (.slice none 0 0)).c2,(ab5.all (.int .i64 0) (.int .i64 0) (.int .i64 0) (.string ⟨#[]⟩) (.slice none 0 0)).c3,(ab5.all (.int .i64 0) (.int .i64 0) (.int .i64 0) (.string ⟨#[]⟩) (.slice none 0 0)).c4];rfl) rfl ⟨.slice none 0 0,by rw[E3.out,E1.out],F5,(FH.out h5 hn5 b5 (but_5 _ (But.refl _ _) _ _ _ _ _)).1,(FH.out h5 hn5 b5 (but_5 _ (But.refl _ _) _ _ _ _ _)).2.1,(FH.out h5 hn5 b5 (but_5 _ (But.refl _ _) _ _ _ _ _)).2.2,by rw[E3.out];exact World.ownsRow_nil _ _ _ _,fun j hj=>by cases hj⟩
  ·skip
   have eB:pBody c true=pNextP c:=by unfold pBody;rw[if_neg (by rw[hk];decide),if_neg (by decide),if_neg (by rw[hk];decide),if_neg (by rw[hk];decide),if_neg (by rw[hk];decide),if_neg (by rw[hk];decide),if_pos hk]
   rw[eB]
   have K:=plNextP V c i h ok sm hn (by have:=clF_ow hcl (by omega);unfold maxLen;omega)
   obtain⟨E,hE⟩:∃ E,Hid (E=ev (runF (pNextP c) d1 i)):=⟨_,rfl⟩
   rw[<- hE.out] at K
   have E1:Hid (ev (runF (pNextP c) d1 i)=E):=hE.out.symm
   obtain⟨r1,r2,r3⟩:=runA_nextP c d1 i
   have hA:Hid ((runA (pNextP c) d1 i)=⟨(runA (pNextP c) d1 i).p,0,ByteArray.empty,[]⟩):=by show _=_;rw[<- r1,<- r2,<- r3]
   generalize (runA (pNextP c) d1 i).p=Q at K hA
   have z1:(c.what==1)=false:=by rw[hk];rfl
   have z2:(c.what==2)=false:=by rw[hk];rfl
   have z3:(c.what==3)=false:=by rw[hk];rfl
   have z4:(c.what==4)=false:=by rw[hk];rfl
   have z5:(c.what==5)=false:=by rw[hk];rfl
   have z6:(c.what==6)=true:=by rw[hk];rfl
   have z7:(c.what==7)=false:=by rw[hk];rfl
   have z8:(c.what==8)=false:=by rw[hk];rfl
   have z9:(c.what==9)=false:=by rw[hk];rfl
   have zn:(c.what != 1)=true:=by rw[hk];rfl
   clear eB hk r1 r2 r3
   go_wp2_with (go_at_call 102;refine K.mono ?_;clear K;rintro e w5 ⟨rfl,hj5⟩;obtain⟨F5,h5,hn5⟩:=hj5.ex;have b5:=hj5.bt;have ab5:=ab.but b5 n2;obtain⟨a0,a1,a2,a3,a4,af0,af1,af2,af3,af4⟩:=id ab5)
   exact bodyPost_ret (v:=.tuple #[anV ⟨Q,0,ByteArray.empty,[]⟩ (.slice none 0 0),E]) (by simp[results,Tryz.results63,go_sem,(((ab5.set0 (.int .i64 Q.1)).set1 (.int .i64 Q.2)).all (.int .i64 Q.1) (.int .i64 Q.2) (.int .i64 0) (.string ⟨#[]⟩) (.slice none 0 0)).c0,(((ab5.set0 (.int .i64 Q.1)).set1 (.int .i64 Q.2)).all (.int .i64 Q.1) (.int .i64 Q.2) (.int .i64 0) (.string ⟨#[]⟩) (.slice none 0 0)).c1,(((ab5.set0 (.int .i64 Q.1)).set1 (.int .i64 Q.2)).all (.int .i64 Q.1) (.int .i64 Q.2) (.int .i64 0) (.string ⟨#[]⟩) (.slice none 0 0)).c2,(((ab5.set0 (.int .i64 Q.1)).set1 (.int .i64 Q.2)).all (.int .i64 Q.1) (.int .i64 Q.2) (.int .i64 0) (.string ⟨#[]⟩) (.slice none 0 0)).c3,(((ab5.set0 (.int .i64 Q.1)).set1 (.int .i64 Q.2)).all (.int .i64 Q.1) (.int .i64 Q.2) (.int .i64 0) (.string ⟨#[]⟩) (.slice none 0 0)).c4];rfl) rfl ⟨.slice none 0 0,by rw[hA.out,E1.out],F5,(FH.out h5 hn5 b5 (but_5 _ (but_st _ (but_st _ (But.refl _ _) 0 _) 1 _) _ _ _ _ _)).1,(FH.out h5 hn5 b5 (but_5 _ (but_st _ (but_st _ (But.refl _ _) 0 _) 1 _) _ _ _ _ _)).2.1,(FH.out h5 hn5 b5 (but_5 _ (but_st _ (but_st _ (But.refl _ _) 0 _) 1 _) _ _ _ _ _)).2.2,by rw[hA.out];exact World.ownsRow_nil _ _ _ _,fun j hj=>by cases hj⟩
  ·skip
   have eB:pBody c true=pNextA c:=by unfold pBody;rw[if_neg (by rw[hk];decide),if_neg (by decide),if_neg (by rw[hk];decide),if_neg (by rw[hk];decide),if_neg (by rw[hk];decide),if_neg (by rw[hk];decide),if_neg (by rw[hk];decide),if_pos hk]
   rw[eB]
   have K:=plNextA V c i h ok sm hn (by have:=clF_ow hcl (by omega);unfold maxLen;omega)
   obtain⟨E,hE⟩:∃ E,Hid (E=ev (runF (pNextA c) d1 i)):=⟨_,rfl⟩
   rw[<- hE.out] at K
   have E1:Hid (ev (runF (pNextA c) d1 i)=E):=hE.out.symm
   obtain⟨r1,r2,r3⟩:=runA_nextA c d1 i
   have hA:Hid ((runA (pNextA c) d1 i)=⟨(0,0),(runA (pNextA c) d1 i).ad,ByteArray.empty,[]⟩):=by show _=_;rw[<- r1,<- r2,<- r3]
   generalize (runA (pNextA c) d1 i).ad=Q at K hA
   have z1:(c.what==1)=false:=by rw[hk];rfl
   have z2:(c.what==2)=false:=by rw[hk];rfl
   have z3:(c.what==3)=false:=by rw[hk];rfl
   have z4:(c.what==4)=false:=by rw[hk];rfl
   have z5:(c.what==5)=false:=by rw[hk];rfl
   have z6:(c.what==6)=false:=by rw[hk];rfl
   have z7:(c.what==7)=true:=by rw[hk];rfl
   have z8:(c.what==8)=false:=by rw[hk];rfl
   have z9:(c.what==9)=false:=by rw[hk];rfl
   have zn:(c.what != 1)=true:=by rw[hk];rfl
   clear eB hk r1 r2 r3
   go_wp2_with (go_at_call 103;refine K.mono ?_;clear K;rintro e w5 ⟨rfl,hj5⟩;obtain⟨F5,h5,hn5⟩:=hj5.ex;have b5:=hj5.bt;have ab5:=ab.but b5 n2;obtain⟨a0,a1,a2,a3,a4,af0,af1,af2,af3,af4⟩:=id ab5)
   exact bodyPost_ret (v:=.tuple #[anV ⟨(0,0),Q,ByteArray.empty,[]⟩ (.slice none 0 0),E]) (by simp[results,Tryz.results63,go_sem,((ab5.set2 (.int .i64 Q)).all (.int .i64 0) (.int .i64 0) (.int .i64 Q) (.string ⟨#[]⟩) (.slice none 0 0)).c0,((ab5.set2 (.int .i64 Q)).all (.int .i64 0) (.int .i64 0) (.int .i64 Q) (.string ⟨#[]⟩) (.slice none 0 0)).c1,((ab5.set2 (.int .i64 Q)).all (.int .i64 0) (.int .i64 0) (.int .i64 Q) (.string ⟨#[]⟩) (.slice none 0 0)).c2,((ab5.set2 (.int .i64 Q)).all (.int .i64 0) (.int .i64 0) (.int .i64 Q) (.string ⟨#[]⟩) (.slice none 0 0)).c3,((ab5.set2 (.int .i64 Q)).all (.int .i64 0) (.int .i64 0) (.int .i64 Q) (.string ⟨#[]⟩) (.slice none 0 0)).c4];rfl) rfl ⟨.slice none 0 0,by rw[hA.out,E1.out],F5,(FH.out h5 hn5 b5 (but_5 _ (but_st _ (But.refl _ _) 2 _) _ _ _ _ _)).1,(FH.out h5 hn5 b5 (but_5 _ (but_st _ (But.refl _ _) 2 _) _ _ _ _ _)).2.1,(FH.out h5 hn5 b5 (but_5 _ (but_st _ (But.refl _ _) 2 _) _ _ _ _ _)).2.2,by rw[hA.out];exact World.ownsRow_nil _ _ _ _,fun j hj=>by cases hj⟩
  ·skip
   have eB:pBody c true=pList c:=by unfold pBody;rw[if_neg (by rw[hk];decide),if_neg (by decide),if_neg (by rw[hk];decide),if_neg (by rw[hk];decide),if_neg (by rw[hk];decide),if_neg (by rw[hk];decide),if_neg (by rw[hk];decide),if_neg (by rw[hk];decide),if_pos hk]
   rw[eB]
   have K:=plList V c i h ok sm hn
   obtain⟨E,hE⟩:∃ E,Hid (E=ev (runF (pList c) d1 i)):=⟨_,rfl⟩
   rw[<- hE.out] at K
   have E1:Hid (ev (runF (pList c) d1 i)=E):=hE.out.symm
   obtain⟨r1,r2,r3⟩:=runA_list c d1 i
   have hA:Hid ((runA (pList c) d1 i)=⟨(0,0),0,ByteArray.empty,(runA (pList c) d1 i).l⟩):=by show _=_;rw[<- r1,<- r2,<- r3]
   generalize (runA (pList c) d1 i).l=Q at K hA
   have z1:(c.what==1)=false:=by rw[hk];rfl
   have z2:(c.what==2)=false:=by rw[hk];rfl
   have z3:(c.what==3)=false:=by rw[hk];rfl
   have z4:(c.what==4)=false:=by rw[hk];rfl
   have z5:(c.what==5)=false:=by rw[hk];rfl
   have z6:(c.what==6)=false:=by rw[hk];rfl
   have z7:(c.what==7)=false:=by rw[hk];rfl
   have z8:(c.what==8)=true:=by rw[hk];rfl
   have z9:(c.what==9)=false:=by rw[hk];rfl
   have zn:(c.what != 1)=true:=by rw[hk];rfl
   clear eB hk r1 r2 r3
   go_wp2_with (go_at_call 104;refine K.mono ?_;clear K;rintro e w5 ⟨u,rfl,F5,h5,hn5,b5,row5,sep5⟩;have ab5:=ab.but b5 n2;obtain⟨a0,a1,a2,a3,a4,af0,af1,af2,af3,af4⟩:=id ab5;obtain⟨pu,cu,rfl⟩:=own_form row5)
   exact bodyPost_ret (v:=.tuple #[anV ⟨(0,0),0,ByteArray.empty,Q⟩ (.slice pu Q.length cu),E]) (by simp[results,Tryz.results63,go_sem,((ab5.set4 (.slice pu Q.length cu)).all (.int .i64 0) (.int .i64 0) (.int .i64 0) (.string ⟨#[]⟩) (.slice pu Q.length cu)).c0,((ab5.set4 (.slice pu Q.length cu)).all (.int .i64 0) (.int .i64 0) (.int .i64 0) (.string ⟨#[]⟩) (.slice pu Q.length cu)).c1,((ab5.set4 (.slice pu Q.length cu)).all (.int .i64 0) (.int .i64 0) (.int .i64 0) (.string ⟨#[]⟩) (.slice pu Q.length cu)).c2,((ab5.set4 (.slice pu Q.length cu)).all (.int .i64 0) (.int .i64 0) (.int .i64 0) (.string ⟨#[]⟩) (.slice pu Q.length cu)).c3,((ab5.set4 (.slice pu Q.length cu)).all (.int .i64 0) (.int .i64 0) (.int .i64 0) (.string ⟨#[]⟩) (.slice pu Q.length cu)).c4];rfl) rfl ⟨.slice pu Q.length cu,by rw[hA.out,E1.out],F5,(FH.out h5 hn5 b5 (but_5 _ (but_st _ (But.refl _ _) 4 _) _ _ _ _ _)).1,(FH.out h5 hn5 b5 (but_5 _ (but_st _ (But.refl _ _) 4 _) _ _ _ _ _)).2.1,(FH.out h5 hn5 b5 (but_5 _ (but_st _ (But.refl _ _) 4 _) _ _ _ _ _)).2.2,by rw[hA.out];exact ownMono (by have:=hB.size;omega) (row_but row5 (but_5 _ (but_st _ (But.refl _ _) 4 _) _ _ _ _ _) (fun j hj q=>by omega)),sep5⟩
  ·skip
   obtain⟨_,_,g2,g3,_⟩:=Bur.fault_ok (clF_a hcl (by omega))
   have eB:pBody c true=pWho c:=by unfold pBody;rw[if_neg (by rw[hk];decide),if_neg (by decide),if_neg (by rw[hk];decide),if_neg (by rw[hk];decide),if_neg (by rw[hk];decide),if_neg (by rw[hk];decide),if_neg (by rw[hk];decide),if_neg (by rw[hk];decide),if_neg (by rw[hk];decide)]
   rw[eB]
   have K:=plWho V c i h ok sm hn g2 g3
   obtain⟨E,hE⟩:∃ E,Hid (E=ev (runF (pWho c) d1 i)):=⟨_,rfl⟩
   rw[<- hE.out] at K
   have E1:Hid (ev (runF (pWho c) d1 i)=E):=hE.out.symm
   obtain⟨r1,r2,r3⟩:=runA_who c d1 i
   have hA:Hid ((runA (pWho c) d1 i)=⟨(0,0),0,(runA (pWho c) d1 i).ow,[]⟩):=by show _=_;rw[<- r1,<- r2,<- r3]
   generalize (runA (pWho c) d1 i).ow=Q at K hA
   have z1:(c.what==1)=false:=by rw[hk];rfl
   have z2:(c.what==2)=false:=by rw[hk];rfl
   have z3:(c.what==3)=false:=by rw[hk];rfl
   have z4:(c.what==4)=false:=by rw[hk];rfl
   have z5:(c.what==5)=false:=by rw[hk];rfl
   have z6:(c.what==6)=false:=by rw[hk];rfl
   have z7:(c.what==7)=false:=by rw[hk];rfl
   have z8:(c.what==8)=false:=by rw[hk];rfl
   have z9:(c.what==9)=true:=by rw[hk];rfl
   have zn:(c.what != 1)=true:=by rw[hk];rfl
   clear eB hk r1 r2 r3
   go_wp2_with (go_at_call 105;refine K.mono ?_;clear K;rintro e w5 ⟨rfl,hj5⟩;obtain⟨F5,h5,hn5⟩:=hj5.ex;have b5:=hj5.bt;have ab5:=ab.but b5 n2;obtain⟨a0,a1,a2,a3,a4,af0,af1,af2,af3,af4⟩:=id ab5)
   exact bodyPost_ret (v:=.tuple #[anV ⟨(0,0),0,Q,[]⟩ (.slice none 0 0),E]) (by simp[results,Tryz.results63,go_sem,((ab5.set3 (.string Q)).all (.int .i64 0) (.int .i64 0) (.int .i64 0) (.string Q) (.slice none 0 0)).c0,((ab5.set3 (.string Q)).all (.int .i64 0) (.int .i64 0) (.int .i64 0) (.string Q) (.slice none 0 0)).c1,((ab5.set3 (.string Q)).all (.int .i64 0) (.int .i64 0) (.int .i64 0) (.string Q) (.slice none 0 0)).c2,((ab5.set3 (.string Q)).all (.int .i64 0) (.int .i64 0) (.int .i64 0) (.string Q) (.slice none 0 0)).c3,((ab5.set3 (.string Q)).all (.int .i64 0) (.int .i64 0) (.int .i64 0) (.string Q) (.slice none 0 0)).c4]) rfl ⟨.slice none 0 0,by rw[hA.out,E1.out],F5,(FH.out h5 hn5 b5 (but_5 _ (but_st _ (But.refl _ _) 3 _) _ _ _ _ _)).1,(FH.out h5 hn5 b5 (but_5 _ (but_st _ (But.refl _ _) 3 _) _ _ _ _ _)).2.1,(FH.out h5 hn5 b5 (but_5 _ (but_st _ (But.refl _ _) 3 _) _ _ _ _ _)).2.2,by rw[hA.out];exact World.ownsRow_nil _ _ _ _,fun j hj=>by cases hj⟩
end
end Go.Proofs.YtmghmpclmphccaaGreatDoor.Pa
namespace Go.Proofs.YtmghmpclmphccaaGreatDoor.Pa
open Go.RowKit Go.Maps Vs
section
variable {T:Td} {w:World} {F:Nat->Prop} {B:Nat} {d:Dk}
theorem plDo1 (V:DFace T) (c:Cl) (i:Int) (h:Ds T w F B d) (ok:OkD d) (sm:Sm d) (hcl:clF c=0) :
  Calls Tryz.prog 63 #[wkV B c i] w fun e w'=>DoPost T F w B (runD (pWork c) d i) (runA (pWork c) d i) (runF (pWork c) d i) e w':=by
 obtain⟨_,_,hnm⟩:=clF_in hcl
 have hn:c.nm.size<=1000:=by omega
 obtain⟨W,hW⟩:∃ W,W=(w.alloc (.cells (wkA B c i) 130)).alloc (.cells #[.int .i64 0,.int .i64 0,.int .i64 0,.string ⟨#[]⟩,.slice none 0 0] 46):=⟨_,rfl⟩
 have bW:Below w.heap.size w W:=by rw[hW];exact below_al (below_al (below_self w) _) _
 obtain⟨bb,hbb⟩:∃ bb,bb=w.heap.size:=⟨_,rfl⟩
 have wk:Wk W bb B c i:=by rw[hW,hbb];exact (Wk.new w B c i 130).step (below_al (below_self _) _)
 have ab:Ab W (bb+1) (.int .i64 0) (.int .i64 0) (.int .i64 0) (.string ⟨#[]⟩) (.slice none 0 0):=by
  have:=Ab.new (w.alloc (.cells (wkA B c i) 130)) (.int .i64 0) (.int .i64 0) (.int .i64 0) (.string ⟨#[]⟩) (.slice none 0 0) 46
  rw[World.size_alloc] at this
  rw[hW,hbb];exact this
 have hW1:=h.step V bW
 have KK:=fun W'=>plNetKey c.nm W' hn
 rw[show (⟨(Bur.netK c.nm.data.toList).toArray⟩:ByteArray)=kN c.nm from rfl] at KK
 have KF:=fun w3 (b3:Below W.heap.size W w3)=>plFind V c i (kN c.nm) (hW1.step V b3) ok sm (by rw[kN_size];unfold maxLen;omega)
 have hbx:¬ F bb:=fun q=>by have:=h.lt _ q;omega
 have hby:¬ F (bb+1):=fun q=>by have:=h.lt _ q;omega
 have rel:∀ w3 w4,Below W.heap.size W w3->Dj T F w3 w4 B (dgD d i (kN c.nm))->Wk w4 bb B c i -> ∃ F4,Ds T w4 F4 B (dgD d i (kN c.nm))/\(∀ j,F4 j->Nw F w w4 j)/\But F w w4/\Wk w4 bb B c i/\Ab w4 (bb+1) (.int .i64 0) (.int .i64 0) (.int .i64 0) (.string ⟨#[]⟩) (.slice none 0 0) /\ ¬ F4 (bb+1):=fun w3 w4 b3 hj4 wk4=>by
  obtain⟨F4,h4,hn4⟩:=hj4.ex
  have s1:=bW.size
  have s3:=b3.size
  have s4:=hj4.bt.size
  have l1:=ab.lt
  have e1:But F w w3:=.below (below_via bW b3)
  refine⟨F4,h4,fun j hj=>?_,e1.trans hj4.bt,wk4,(ab.step b3).but hj4.bt hby,fun q=>?_⟩
  ·rcases hn4 j hj with g|g
   ·exact .inl g
   ·exact .inr ⟨by have:=g.1;omega,g.2⟩
  ·rcases hn4 _ q with g|g
   ·exact hby g
   ·have:=g.1;omega
 have okg:=ok.dg i (kN c.nm)
 have smg:=Sm.dg sm ok i (kN c.nm)
 rw[pWork_is]
 rcases find_cases (d:=d) i (kN c.nm) with ⟨f1,f2,f3,f4⟩|⟨f1,f2,f3,f4⟩|⟨f0,f1,f2,f3⟩
 ·obtain⟨a1,a2,a3⟩:=asks_no (d:=d) (i:=i) (k:=kN c.nm) (K:=fun _ is=>pBody c is) f1
  rw[a1,a2,a3]
  rw[f2,f3,ev_0] at KF
  obtain⟨SS,hSS⟩:∃ SS,Hid (SS=fnS d i (kN c.nm)):=⟨_,rfl⟩
  rw[<- hSS.out] at KF
  have REL:Hid _:=rel
  clear rel a1 a2 a3 f1 f2 f3 f4 hW1
  go_enter Tryz.func63,Tryz.ntmps63
  go_upto_region 1 with fail
  rw[<- hW]
  rw[<- hbb]
  have HBB:Hid (bb=w.heap.size):=hbb
  clear hW bW hbb
  go_cut [3,4,5] from 6 to 15 (fun s3 s4 s5 wy=>∃ F4,s3=.nilIface/\s4=.string SS/\s5=.bool false/\Ds T wy F4 B (dgD d i (kN c.nm))/\(∀ j,F4 j->Nw F w wy j)/\But F w wy/\Wk wy bb B c i/\Ab wy (bb+1) (.int .i64 0) (.int .i64 0) (.int .i64 0) (.string ⟨#[]⟩) (.slice none 0 0) /\ ¬ F4 (bb+1))
  case first=>
   obtain⟨k0,k1,k2,k3,k4,k5,k6,k7,k8⟩:=id wk
   go_region_held3 (fun wy=>wy.cell? ⟨bb,0,none⟩=some (.pointer (some ⟨B,0,none⟩))/\wy.cell? ⟨bb,1,none⟩=some (.int .i64 c.what)/\wy.cell? ⟨bb,2,none⟩=some (.string c.nm)/\wy.cell? ⟨bb,3,none⟩=some (.int .i64 c.p.1)/\wy.cell? ⟨bb,4,none⟩=some (.int .i64 c.p.2)/\wy.cell? ⟨bb,5,none⟩=some (.int .i64 c.len)/\wy.cell? ⟨bb,6,none⟩=some (.int .i64 c.ad)/\wy.cell? ⟨bb,7,none⟩=some (.string c.ow)/\wy.cell? ⟨bb,8,none⟩=some (.int .i64 i))
    (first|exact⟨wk4.c0,wk4.c1,wk4.c2,wk4.c3,wk4.c4,wk4.c5,wk4.c6,wk4.c7,wk4.c8⟩|exact⟨wk3.c0,wk3.c1,wk3.c2,wk3.c3,wk3.c4,wk3.c5,wk3.c6,wk3.c7,wk3.c8⟩|exact⟨k0,k1,k2,k3,k4,k5,k6,k7,k8⟩)
    (first
     | (go_at_call 96;refine (KK _).mono ?_;clear KK;rintro e w3 ⟨rfl,hw3⟩;have wk3:Wk w3 bb B c i:=(by rw[hw3];exact wk.step (below_self W).drew);have b3:Below W.heap.size W w3:=(by rw[hw3];exact (below_self W).drew);have KF1:=KF w3 b3;clear hw3)
     | (go_at_call 95;refine KF1.mono ?_;clear KF1;rintro e w4 ⟨rfl,hj4⟩;have wk4:Wk w4 bb B c i:=wk3.but hj4.bt hbx))
   all_goals (
    go_wp2_with fail
    go_meet)
   case rel=>
    obtain⟨F4,hh⟩:=REL.out w3 w4 b3 hj4 wk4
    exact⟨F4,rfl,rfl,rfl,hh⟩
  case rest=>
   obtain⟨F4,rfl,rfl,rfl,h4,hN4,hB4,wk4,ab4,n4⟩:=hcut
   obtain rfl:=HBB.out
   refine ‹∀ (a:Act) (w:World),Code.wp _ _ _ a w->_› _ _ ?_
   exact plDo2 V c i false h.en h4 okg smg hcl wk4 ab4 n4 hN4 hB4
 ·obtain⟨a1,a2,a3⟩:=asks_yes (d:=d) (i:=i) (k:=kN c.nm) (K:=fun _ is=>pBody c is) f1
  rw[a1,a2,a3]
  rw[f2,f3,ev_0] at KF
  obtain⟨SS,hSS⟩:∃ SS,Hid (SS=fnS d i (kN c.nm)):=⟨_,rfl⟩
  rw[<- hSS.out] at KF
  have REL:Hid _:=rel
  clear rel a1 a2 a3 f1 f2 f3 f4 hW1
  go_enter Tryz.func63,Tryz.ntmps63
  go_upto_region 1 with fail
  rw[<- hW]
  rw[<- hbb]
  have HBB:Hid (bb=w.heap.size):=hbb
  clear hW bW hbb
  go_cut [3,4,5] from 6 to 15 (fun s3 s4 s5 wy=>∃ F4,s3=.nilIface/\s4=.string SS/\s5=.bool true/\Ds T wy F4 B (dgD d i (kN c.nm))/\(∀ j,F4 j->Nw F w wy j)/\But F w wy/\Wk wy bb B c i/\Ab wy (bb+1) (.int .i64 0) (.int .i64 0) (.int .i64 0) (.string ⟨#[]⟩) (.slice none 0 0) /\ ¬ F4 (bb+1))
  case first=>
   obtain⟨k0,k1,k2,k3,k4,k5,k6,k7,k8⟩:=id wk
   go_region_held3 (fun wy=>wy.cell? ⟨bb,0,none⟩=some (.pointer (some ⟨B,0,none⟩))/\wy.cell? ⟨bb,1,none⟩=some (.int .i64 c.what)/\wy.cell? ⟨bb,2,none⟩=some (.string c.nm)/\wy.cell? ⟨bb,3,none⟩=some (.int .i64 c.p.1)/\wy.cell? ⟨bb,4,none⟩=some (.int .i64 c.p.2)/\wy.cell? ⟨bb,5,none⟩=some (.int .i64 c.len)/\wy.cell? ⟨bb,6,none⟩=some (.int .i64 c.ad)/\wy.cell? ⟨bb,7,none⟩=some (.string c.ow)/\wy.cell? ⟨bb,8,none⟩=some (.int .i64 i))
    (first|exact⟨wk4.c0,wk4.c1,wk4.c2,wk4.c3,wk4.c4,wk4.c5,wk4.c6,wk4.c7,wk4.c8⟩|exact⟨wk3.c0,wk3.c1,wk3.c2,wk3.c3,wk3.c4,wk3.c5,wk3.c6,wk3.c7,wk3.c8⟩|exact⟨k0,k1,k2,k3,k4,k5,k6,k7,k8⟩)
    (first
     | (go_at_call 96;refine (KK _).mono ?_;clear KK;rintro e w3 ⟨rfl,hw3⟩;have wk3:Wk w3 bb B c i:=(by rw[hw3];exact wk.step (below_self W).drew);have b3:Below W.heap.size W w3:=(by rw[hw3];exact (below_self W).drew);have KF1:=KF w3 b3;clear hw3)
     | (go_at_call 95;refine KF1.mono ?_;clear KF1;rintro e w4 ⟨rfl,hj4⟩;have wk4:Wk w4 bb B c i:=wk3.but hj4.bt hbx))
   all_goals (
    go_wp2_with fail
    go_meet)
   case rel=>
    obtain⟨F4,hh⟩:=REL.out w3 w4 b3 hj4 wk4
    exact⟨F4,rfl,rfl,rfl,hh⟩
  case rest=>
   obtain⟨F4,rfl,rfl,rfl,h4,hN4,hB4,wk4,ab4,n4⟩:=hcut
   obtain rfl:=HBB.out
   refine ‹∀ (a:Act) (w:World),Code.wp _ _ _ a w->_› _ _ ?_
   exact plDo2 V c i true h.en h4 okg smg hcl wk4 ab4 n4 hN4 hB4
 ·obtain⟨a1,a2,a3⟩:=asks_err (d:=d) (i:=i) (k:=kN c.nm) (K:=fun _ is=>pBody c is) f0 f1
  rw[a1,a2,a3]
  rw[f2,f3,ev_ne f1] at KF
  have hEv:Hid (ev (dgF d i (kN c.nm))=errN (dgF d i (kN c.nm))):=ev_ne f1
  obtain⟨SS,hSS⟩:∃ SS,Hid (SS=fnS d i (kN c.nm)):=⟨_,rfl⟩
  rw[<- hSS.out] at KF
  have REL:Hid _:=rel
  clear rel a1 a2 a3 f0 f1 f2 f3 hW1
  go_enter Tryz.func63,Tryz.ntmps63
  go_upto_region 1 with fail
  rw[<- hW]
  rw[<- hbb]
  have HBB:Hid (bb=w.heap.size):=hbb
  clear hW bW hbb
  go_cut [3,4,5] from 6 to 15 (fun s3 s4 s5 wy=>∃ F4,s3=errN (dgF d i (kN c.nm))/\s4=.string SS/\s5=.bool false/\Ds T wy F4 B (dgD d i (kN c.nm))/\(∀ j,F4 j->Nw F w wy j)/\But F w wy/\Wk wy bb B c i/\Ab wy (bb+1) (.int .i64 0) (.int .i64 0) (.int .i64 0) (.string ⟨#[]⟩) (.slice none 0 0) /\ ¬ F4 (bb+1))
  case first=>
   obtain⟨k0,k1,k2,k3,k4,k5,k6,k7,k8⟩:=id wk
   go_region_held3 (fun wy=>wy.cell? ⟨bb,0,none⟩=some (.pointer (some ⟨B,0,none⟩))/\wy.cell? ⟨bb,1,none⟩=some (.int .i64 c.what)/\wy.cell? ⟨bb,2,none⟩=some (.string c.nm)/\wy.cell? ⟨bb,3,none⟩=some (.int .i64 c.p.1)/\wy.cell? ⟨bb,4,none⟩=some (.int .i64 c.p.2)/\wy.cell? ⟨bb,5,none⟩=some (.int .i64 c.len)/\wy.cell? ⟨bb,6,none⟩=some (.int .i64 c.ad)/\wy.cell? ⟨bb,7,none⟩=some (.string c.ow)/\wy.cell? ⟨bb,8,none⟩=some (.int .i64 i))
    (first|exact⟨wk4.c0,wk4.c1,wk4.c2,wk4.c3,wk4.c4,wk4.c5,wk4.c6,wk4.c7,wk4.c8⟩|exact⟨wk3.c0,wk3.c1,wk3.c2,wk3.c3,wk3.c4,wk3.c5,wk3.c6,wk3.c7,wk3.c8⟩|exact⟨k0,k1,k2,k3,k4,k5,k6,k7,k8⟩)
    (first
     | (go_at_call 96;refine (KK _).mono ?_;clear KK;rintro e w3 ⟨rfl,hw3⟩;have wk3:Wk w3 bb B c i:=(by rw[hw3];exact wk.step (below_self W).drew);have b3:Below W.heap.size W w3:=(by rw[hw3];exact (below_self W).drew);have KF1:=KF w3 b3;clear hw3)
     | (go_at_call 95;refine KF1.mono ?_;clear KF1;rintro e w4 ⟨rfl,hj4⟩;have wk4:Wk w4 bb B c i:=wk3.but hj4.bt hbx))
   all_goals (
    go_wp2_with fail
    go_meet)
   case rel=>
    obtain⟨F4,hh⟩:=REL.out w3 w4 b3 hj4 wk4
    exact⟨F4,rfl,rfl,rfl,hh⟩
  case rest=>
   obtain⟨F4,rfl,rfl,rfl,h4,hN4,hB4,wk4,ab4,n4⟩:=hcut
   have hbb:=HBB.out
   obtain⟨a0,a1,a2,a3,a4,af0,af1,af2,af3,af4⟩:=id ab4
   have FIN:=fun {wf:World} (hb:But (fun j=>j=bb+1) wc wf)=>do_fin (F:=F) (F1:=F4) (w:=w) (wx:=wc) (ab:=bb+1) V h.en hB4 hN4 h4 (fun _ hj=>.inl hj) (But.refl _ _) (by omega) ab4.lt n4 hb
   have FH:Hid _:=@FIN
   clear FIN hbb
   go_wp2_with fail
   exact bodyPost_ret (v:=.tuple #[anV an0 (.slice none 0 0),errN (dgF d i (kN c.nm))]) (by simp[results,Tryz.results63,go_sem,an0,(ab4.all (.int .i64 0) (.int .i64 0) (.int .i64 0) (.string ⟨#[]⟩) (.slice none 0 0)).c0,(ab4.all (.int .i64 0) (.int .i64 0) (.int .i64 0) (.string ⟨#[]⟩) (.slice none 0 0)).c1,(ab4.all (.int .i64 0) (.int .i64 0) (.int .i64 0) (.string ⟨#[]⟩) (.slice none 0 0)).c2,(ab4.all (.int .i64 0) (.int .i64 0) (.int .i64 0) (.string ⟨#[]⟩) (.slice none 0 0)).c3,(ab4.all (.int .i64 0) (.int .i64 0) (.int .i64 0) (.string ⟨#[]⟩) (.slice none 0 0)).c4];rfl) rfl ⟨.slice none 0 0,by rw[hEv.out],F4,(FH.out (but_5 _ (But.refl _ _) _ _ _ _ _)).1,(FH.out (but_5 _ (But.refl _ _) _ _ _ _ _)).2.1,(FH.out (but_5 _ (But.refl _ _) _ _ _ _ _)).2.2,World.ownsRow_nil _ _ _ _,fun j hj=>by cases hj⟩
theorem plDo (V:DFace T) (c:Cl) (i:Int) (h:Ds T w F B d) (ok:OkD d) (sm:Sm d) :
  Calls Tryz.prog 32 #[.pointer (some ⟨B,0,none⟩),.int .i64 i,clV c] w fun e w'=>DoPost T F w B (runD (doP c) d i) (runA (doP c) d i) (runF (doP c) d i) e w':=by
 obtain⟨W,hW⟩:∃ W,W=(w.alloc (.cells (clA c) 33)).alloc (.cells #[.int .i64 0,.int .i64 0,.int .i64 0,.string ⟨#[]⟩,.slice none 0 0] 46):=⟨_,rfl⟩
 have bW:Below w.heap.size w W:=by rw[hW];exact below_al (below_al (below_self w) _) _
 obtain⟨bb,hbb⟩:∃ bb,bb=w.heap.size:=⟨_,rfl⟩
 have q:∀ j u,(clA c)[j]? = some u->W.cell? ⟨bb,j,none⟩=some u:=fun j u hj=>by
  rw[hW,hbb]
  exact ((below_al (below_self (w.alloc (.cells (clA c) 33))) _).cell (p:=⟨w.heap.size,j,none⟩) (by simp)).trans (by simpa using hj)
 have q0:=q 0 _ rfl
 have q1:=q 1 _ rfl
 have q2:=q 2 _ rfl
 have q3:=q 3 _ rfl
 have q4:=q 4 _ rfl
 have q5:=q 5 _ rfl
 have q6:=q 6 _ rfl
 clear q
 have ab:Ab W (bb+1) (.int .i64 0) (.int .i64 0) (.int .i64 0) (.string ⟨#[]⟩) (.slice none 0 0):=by
  have:=Ab.new (w.alloc (.cells (clA c) 33)) (.int .i64 0) (.int .i64 0) (.int .i64 0) (.string ⟨#[]⟩) (.slice none 0 0) 46
  rw[World.size_alloc] at this
  rw[hW,hbb];exact this
 have hW1:=h.step V bW
 have KC:=plCheck c W
 have hby:¬ F (bb+1):=fun q=>by have:=h.lt _ q;omega
 have l1:=ab.lt
 have FIN:=fun {w1 w5 wf:World} {F5:Nat->Prop} {d':Dk} (b1:Below W.heap.size W w1) (h5:Ds T w5 F5 B d') (hn5:∀ j,F5 j->Nw F w1 w5 j) (b5:But F w1 w5) (hb:But (fun j=>j=bb+1) w5 wf)=>do_fin (F:=F) (F1:=F) (w:=w) (wx:=w1) (ab:=bb+1) V h.en (.below (below_via bW b1)) (fun _ hj=>.inl hj) h5 hn5 b5 (by omega) (Nat.lt_of_lt_of_le l1 b1.size) hby hb
 have FH:Hid _:=@FIN
 have HS:Hid (w.heap.size<=W.heap.size/\bb+1<W.heap.size):=⟨bW.size,l1⟩
 clear FIN
 by_cases hcl:clF c=0
 ·have K1:=fun w1 (b1:Below W.heap.size W w1)=>plDo1 V c i (hW1.step V b1) ok sm hcl
  rw[show doP c=pWork c from if_pos hcl]
  rw[hcl,ev_0] at KC
  obtain⟨E,hE⟩:∃ E,Hid (E=ev (runF (pWork c) d i)):=⟨_,rfl⟩
  generalize runA (pWork c) d i=a at K1 ⊢
  generalize runD (pWork c) d i=d' at K1 ⊢
  unfold DoPost at K1 ⊢
  rw[<- hE.out] at K1 ⊢
  clear hcl hW1 hby l1 bW
  go_enter Tryz.func32,Tryz.ntmps32
  go_wp2_with (first
   | (go_at_call 62;rw[<- hW];refine KC.mono ?_;clear KC;rintro e w1 ⟨rfl,b1⟩;have K2:=K1 w1 b1;have ab1:=ab.step b1;have m0:=(b1.cell (World.block_lt_of_cell? _ _ q0)).trans q0;have m1:=(b1.cell (World.block_lt_of_cell? _ _ q1)).trans q1;have m2:=(b1.cell (World.block_lt_of_cell? _ _ q2)).trans q2;have m3:=(b1.cell (World.block_lt_of_cell? _ _ q3)).trans q3;have m4:=(b1.cell (World.block_lt_of_cell? _ _ q4)).trans q4;have m5:=(b1.cell (World.block_lt_of_cell? _ _ q5)).trans q5;have m6:=(b1.cell (World.block_lt_of_cell? _ _ q6)).trans q6;rw[hbb] at m0 m1 m2 m3 m4 m5 m6)
   | (go_at_call 63;refine K2.mono ?_;clear K2;rintro e w2 ⟨u,rfl,F5,h5,hn5,b5,row5,sep5⟩;obtain⟨pu,cu,rfl⟩:=own_form row5;have ab5:=ab1.but b5 (fun q=>by have:=h.lt _ q;omega);obtain⟨a0,a1,a2,a3,a4,af0,af1,af2,af3,af4⟩:=id ab5;rw[hbb] at a0 a1 a2 a3 a4 af0 af1 af2 af3 af4))
  subst hbb
  exact bodyPost_ret (v:=.tuple #[anV a (.slice pu a.l.length cu),E]) (by simp[results,Tryz.results32,go_sem,(ab5.all (.int .i64 a.p.1) (.int .i64 a.p.2) (.int .i64 a.ad) (.string a.ow) (.slice pu a.l.length cu)).c0,(ab5.all (.int .i64 a.p.1) (.int .i64 a.p.2) (.int .i64 a.ad) (.string a.ow) (.slice pu a.l.length cu)).c1,(ab5.all (.int .i64 a.p.1) (.int .i64 a.p.2) (.int .i64 a.ad) (.string a.ow) (.slice pu a.l.length cu)).c2,(ab5.all (.int .i64 a.p.1) (.int .i64 a.p.2) (.int .i64 a.ad) (.string a.ow) (.slice pu a.l.length cu)).c3,(ab5.all (.int .i64 a.p.1) (.int .i64 a.p.2) (.int .i64 a.ad) (.string a.ow) (.slice pu a.l.length cu)).c4]) rfl ⟨.slice pu a.l.length cu,rfl,F5,(FH.out b1 h5 hn5 b5 (but_5 _ (But.refl _ _) _ _ _ _ _)).1,(FH.out b1 h5 hn5 b5 (but_5 _ (But.refl _ _) _ _ _ _ _)).2.1,(FH.out b1 h5 hn5 b5 (but_5 _ (But.refl _ _) _ _ _ _ _)).2.2,ownMono (by have:=b1.size;have:=HS.out.1;omega) (row_but row5 (but_5 _ (But.refl _ _) _ _ _ _ _) (fun j hj q=>by have:=b1.size;have:=HS.out.2;omega)),sep5⟩
 ·have eP:doP c=err (clF c):=if_neg hcl
  rw[eP]
  have E1:Hid (ev (runF (err (clF c)) d i)=errN (clF c)):=ev_ne hcl
  rw[ev_ne hcl] at KC
  generalize hG:clF c=G at KC E1
  clear hG eP hcl l1 bW
  go_enter Tryz.func32,Tryz.ntmps32
  go_wp2_with (go_at_call 62;rw[<- hW];refine KC.mono ?_;clear KC;rintro e w1 ⟨rfl,b1⟩;have ab1:=ab.step b1;obtain⟨a0,a1,a2,a3,a4,af0,af1,af2,af3,af4⟩:=id ab1;rw[hbb] at a0 a1 a2 a3 a4 af0 af1 af2 af3 af4;have h1:=hW1.step V b1)
  subst hbb
  exact bodyPost_ret (v:=.tuple #[anV an0 (.slice none 0 0),errN G]) (by simp[results,Tryz.results32,go_sem,an0,(ab1.all (.int .i64 0) (.int .i64 0) (.int .i64 0) (.string ⟨#[]⟩) (.slice none 0 0)).c0,(ab1.all (.int .i64 0) (.int .i64 0) (.int .i64 0) (.string ⟨#[]⟩) (.slice none 0 0)).c1,(ab1.all (.int .i64 0) (.int .i64 0) (.int .i64 0) (.string ⟨#[]⟩) (.slice none 0 0)).c2,(ab1.all (.int .i64 0) (.int .i64 0) (.int .i64 0) (.string ⟨#[]⟩) (.slice none 0 0)).c3,(ab1.all (.int .i64 0) (.int .i64 0) (.int .i64 0) (.string ⟨#[]⟩) (.slice none 0 0)).c4];rfl) rfl ⟨.slice none 0 0,by rw[E1.out];rfl,F,(FH.out b1 h1 (fun _ hj=>.inl hj) (But.refl _ _) (but_5 _ (But.refl _ _) _ _ _ _ _)).1,(FH.out b1 h1 (fun _ hj=>.inl hj) (But.refl _ _) (but_5 _ (But.refl _ _) _ _ _ _ _)).2.1,(FH.out b1 h1 (fun _ hj=>.inl hj) (But.refl _ _) (but_5 _ (But.refl _ _) _ _ _ _ _)).2.2,World.ownsRow_nil _ _ _ _,fun j hj=>by cases hj⟩
end
end Go.Proofs.YtmghmpclmphccaaGreatDoor.Pa
namespace Go.Proofs.YtmghmpclmphccaaGreatDoor.Pa
open Go.RowKit Vs
def Nc:Pg->Prop
 | .ret _ _=>True
 | _=>False
def Gd:Pg->Prop
 | .ret _ _=>True
 | .get _ K=>∀ v f,Gd (K v f)
 | .rng lo _ K=>lo.size<=1000000 /\ ∀ l f,Gd (K l f)
 | .chg c K=>okc c /\ ∀ f,Nc (K f)
theorem nc_run {g:Pg} (h:Nc g) (d:Dk) (i:Int):runD g d i=d:=by
 cases g with
 | ret a f=>rfl
 | get k K=>exact h.elim
 | rng lo hi K=>exact h.elim
 | chg c K=>exact h.elim
theorem spz_set {d:Dk} (h:Spz d) {o':Ox} (ho:∀ s∈o'.spans,s.1.size<9223372036854775807):Spz (opSet d o'):=fun q hq=>by
 obtain⟨y,hy,rfl⟩:=List.mem_map.1 hq
 split
 ·exact ho
 ·exact h y hy
theorem spz_dg {d:Dk} (h:Spz d) (i:Int) (k:ByteArray):Spz (dgD d i k):=by
 unfold dgD
 cases e:opI d i with
 | none=>exact h
 | some o=>
  simp only
  split
  ·split
   ·exact h
   ·exact spz_set h (h o (opI_some e).1)
  ·exact h
theorem spz_dr {d:Dk} (h:Spz d) (i:Int) (lo hi:ByteArray) (hl:lo.size<=1000000):Spz (drD d i lo hi):=by
 unfold drD
 cases e:opI d i with
 | none=>exact h
 | some o=>
  simp only
  split
  ·exact h
  ·refine spz_set h (fun s hs=>?_)
   rcases List.mem_append.1 hs with g|g
   ·exact h o (opI_some e).1 s g
   ·rw[List.mem_singleton.1 g];show lo.size<_;omega
theorem spz_dc {d:Dk} (h:Spz d) (i:Int) (c:Chg):Spz (dcD d i c):=by
 unfold dcD
 cases e:opI d i with
 | none=>exact h
 | some o=>
  simp only
  split
  ·split
   ·exact h
   ·exact spz_set h (h o (opI_some e).1)
  ·exact h
theorem run_good:∀ (g:Pg) (d:Dk) (i:Int),Gd g->OkD d->Spz d->OkD (runD g d i)/\wt (runD g d i)<=wt d+1/\(runD g d i).ids=d.ids/\Spz (runD g d i)
 | .ret _ _,d,_,_,ok,sz=>⟨ok,Nat.le_succ _,rfl,sz⟩
 | .get k K,d,i,h,ok,sz=>by
  obtain⟨a1,a2,a3,a4⟩:=run_good (K (dgS d i k) (dgF d i k)) (dgD d i k) i (h _ _) (ok.dg i k) (spz_dg sz i k)
  rw[(wt_dg ok i k).1] at a2
  rw[(wt_dg ok i k).2] at a3
  exact⟨a1,a2,a3,a4⟩
 | .rng lo hi K,d,i,h,ok,sz=>by
  obtain⟨a1,a2,a3,a4⟩:=run_good (K (drS d i lo hi) (drF d i)) (drD d i lo hi) i (h.2 _ _) (ok.dr i lo hi) (spz_dr sz i lo hi h.1)
  rw[(wt_dr ok i lo hi).1] at a2
  rw[(wt_dr ok i lo hi).2] at a3
  exact⟨a1,a2,a3,a4⟩
 | .chg c K,d,i,h,ok,sz=>by
  show OkD (runD (K (dcF d i c)) (dcD d i c) i)/\_
  have e:runD (.chg c K) d i=dcD d i c:=nc_run (h.2 _) _ _
  have e':runD (K (dcF d i c)) (dcD d i c) i=dcD d i c:=nc_run (h.2 _) _ _
  rw[e,e']
  exact⟨ok.dc i h.1,(wt_dc ok i c).1,(wt_dc ok i c).2.1,spz_dc sz i c⟩
theorem gd_err (f:Int):Gd (err f):=trivial
theorem gd_asks {k:ByteArray} {K:ByteArray->Bool->Pg} (h:∀ v b,Gd (K v b)):Gd (asks k K):=fun v f=>by
 show Gd (if f=4 then K ByteArray.empty false else if f=0 then K v true else err f)
 by_cases h4:f=4
 ·rw[if_pos h4];exact h _ _
 ·rw[if_neg h4]
  by_cases h5:f=0
  ·rw[if_pos h5];exact h _ _
  ·rw[if_neg h5];exact gd_err _
theorem loK_size (c:UInt8) (n:ByteArray):(loK c n).size=n.size+3:=by
 unfold loK
 rw[txt_size]
 have:n.data.toList.length=n.size:=Array.length_toList
 simp
theorem gd_allL {n:ByteArray} {K:List Lot->Pg} (hn:n.size<=1000) (h:∀ l,Gd (K l)):Gd (allL n K):=⟨by rw[loK_size];omega,fun l f=>by
 show Gd (if f=0 then K (lots l) else err f)
 by_cases h5:f=0
 ·rw[if_pos h5];exact h _
 ·rw[if_neg h5];exact gd_err _⟩
theorem gd_allA {n:ByteArray} {K:List Int->Pg} (hn:n.size<=1000) (h:∀ l,Gd (K l)):Gd (allA n K):=⟨by rw[loK_size];omega,fun l f=>by
 show Gd (if f=0 then K (plcd l) else err f)
 by_cases h5:f=0
 ·rw[if_pos h5];exact h _
 ·rw[if_neg h5];exact gd_err _⟩
theorem gd_puts {k v:ByteArray} {a:An}:Gd (puts k v a):=⟨fun h=>(by cases h),fun f=>by
 show Nc (if f=0 then .ret a 0 else err f)
 split <;> trivial⟩
theorem gd_drops {k:ByteArray}:Gd (drops k):=⟨fun _=>rfl,fun _=>trivial⟩
theorem gd_allW {c:Cl} {K:List Lot->Pg} (hn:c.nm.size<=1000) (h:∀ l,Gd (K l)):Gd (allW c K):=gd_allL hn (fun l=>by
 by_cases h5:c.p∈l.map Prod.fst
 ·rw[if_pos h5];exact h _
 ·rw[if_neg h5];exact gd_err _)
theorem gd_do (c:Cl):Gd (doP c):=by
 unfold doP
 by_cases hcl:clF c=0
 ·rw[if_pos hcl,pWork_is]
  have hn:c.nm.size<=1000:=by have:=(clF_in hcl).2.2;omega
  refine gd_asks (fun _ b=>?_)
  unfold pBody
  split
  ·cases b
   ·exact gd_puts
   ·exact gd_err _
  ·split
   ·exact gd_err _
   ·split
    ·refine gd_asks (fun _ b=>?_)
     cases b
     ·exact gd_puts
     ·exact gd_err _
    ·split
     ·refine gd_asks (fun _ b=>?_)
      cases b
      ·exact gd_err _
      ·rw[if_pos rfl]
       refine gd_allL hn (fun l=>gd_allA hn (fun u=>?_))
       split
       ·exact gd_err _
       ·exact gd_drops
     ·split
      ·refine gd_allL hn (fun l=>gd_asks (fun _ b=>?_))
       split
       ·exact gd_err _
       ·cases b
        ·exact gd_puts
        ·exact gd_err _
      ·split
       ·refine gd_asks (fun _ b=>?_)
        cases b
        ·exact gd_err _
        ·exact gd_drops
       ·split
        ·refine gd_allW hn (fun l=>?_)
         split
         ·split
          ·exact gd_err _
          ·exact gd_puts
         ·exact gd_err _
        ·split
         ·refine gd_allW hn (fun l=>gd_allA hn (fun u=>?_))
          split
          ·exact gd_puts
          ·exact gd_err _
         ·split
          ·exact gd_allL hn (fun l=>trivial)
          ·refine gd_asks (fun v b=>?_)
           cases b
           ·rw[if_neg (by decide)]
            refine gd_allL hn (fun l=>?_)
            cases (hav l c.ad).getLast? with
            | none=>exact gd_err _
            | some o=>trivial
           ·trivial
 ·rw[if_neg hcl];exact gd_err _
def onX (d:Dk) (c:Cl):Dk:=runD (doP c) (bgD d) (bgN d)
def onG (d:Dk) (c:Cl):Int:=runF (doP c) (bgD d) (bgN d)
theorem bg_sm {d:Dk} (h1:wt d<=800) (h2:d.ids<=99000):Sm (bgD d):=⟨by rw[(wt_bg d).1];omega,by have:=(wt_bg d).2.1;omega⟩
theorem spz_bg {d:Dk} (h:Spz d):Spz (bgD d):=fun o ho=>by
 unfold bgD at ho
 split at ho
 ·rcases List.mem_append.1 ho with g|g
  ·exact h o g
  ·rw[List.mem_singleton.1 g];exact fun s hs=>by simp at hs
 ·exact h o ho
theorem on_good {d:Dk} (c:Cl) (ok:OkD d) (sz:Spz d):OkD (onX d c)/\wt (onX d c)<=wt d+1/\(onX d c).ids<=d.ids+1/\Spz (onX d c):=by
 obtain⟨a1,a2,a3,a4⟩:=run_good (doP c) (bgD d) (bgN d) (gd_do c) ok.bg (spz_bg sz)
 rw[(wt_bg d).1] at a2
 have:=(wt_bg d).2.1
 exact⟨a1,a2,by unfold onX;omega,a4⟩
end Go.Proofs.YtmghmpclmphccaaGreatDoor.Pa
namespace Go.Proofs.YtmghmpclmphccaaGreatDoor.Pa
open Go.RowKit Vs
theorem dp_run {k:Nat} {d:Dk} (h:Dp k d) (c:Cl) (i:Int):Dp (k+1) (runD (doP c) d i):=by
 obtain⟨a1,a2,a3,a4⟩:=run_good (doP c) d i (gd_do c) h.ok h.spz
 exact⟨a1,by have:=h.wl;omega,by have:=h.ids;omega,a4⟩
end Go.Proofs.YtmghmpclmphccaaGreatDoor.Pa
namespace Go.Proofs.YtmghmpclmphccaaGreatDoor.Pa
open Go.RowKit Vs
def lgF (vs:List Ver) (o:Ox) (k:ByteArray):Int:=if shF k ByteArray.empty=0 then (if 100<=o.asked then 3 else if (seeO vs o.sees o.own k).isSome=true then 0 else 4) else 2
def lgS (vs:List Ver) (o:Ox) (k:ByteArray):ByteArray:=if shF k ByteArray.empty=0 then (if 100<=o.asked then ByteArray.empty else (seeO vs o.sees o.own k).getD ByteArray.empty) else ByteArray.empty
def lgO (o:Ox) (k:ByteArray):Ox:=if shF k ByteArray.empty=0 then (if 100<=o.asked then o else askK o k) else o
def lrF (o:Ox):Int:=if 100<=o.asked then 3 else 0
def lrS (vs:List Ver) (o:Ox) (lo hi:ByteArray):List Pr:=if 100<=o.asked then [] else rngO vs o.sees o.own lo hi
def lrO (o:Ox) (lo hi:ByteArray):Ox:=if 100<=o.asked then o else askR o lo hi
def lcF (o:Ox) (c:Chg):Int:=if shF c.k c.v=0 then (if 20<(insC o.own c).length then 3 else 0) else 2
def lcO (o:Ox) (c:Chg):Ox:=if shF c.k c.v=0 then (if 20<(insC o.own c).length then o else { o with own:=insC o.own c }) else o
def loR:Pg->List Ver->Ox->An×Int×Ox
 | .ret a f,_,o=>(a,f,o)
 | .get k K,vs,o=>loR (K (lgS vs o k) (lgF vs o k)) vs (lgO o k)
 | .rng lo hi K,vs,o=>loR (K (lrS vs o lo hi) (lrF o)) vs (lrO o lo hi)
 | .chg c K,vs,o=>loR (K (lcF o c)) vs (lcO o c)
theorem lgO_id (o:Ox) (k:ByteArray):(lgO o k).id=o.id/\(lgO o k).sees=o.sees/\(lgO o k).own=o.own:=by
 unfold lgO;split <;> (try split) <;> exact⟨rfl,rfl,rfl⟩
theorem lrO_id (o:Ox) (lo hi:ByteArray):(lrO o lo hi).id=o.id/\(lrO o lo hi).sees=o.sees/\(lrO o lo hi).own=o.own:=by
 unfold lrO;split <;> exact⟨rfl,rfl,rfl⟩
theorem lcO_id (o:Ox) (c:Chg):(lcO o c).id=o.id/\(lcO o c).sees=o.sees:=by
 unfold lcO;split <;> (try split) <;> exact⟨rfl,rfl⟩
theorem lo_id:∀ (g:Pg) (vs:List Ver) (o:Ox),(loR g vs o).2.2.id=o.id/\(loR g vs o).2.2.sees=o.sees
 | .ret _ _,_,_=>⟨rfl,rfl⟩
 | .get k K,vs,o=>by
  have a:=lo_id (K (lgS vs o k) (lgF vs o k)) vs (lgO o k)
  have b:=lgO_id o k
  exact⟨a.1.trans b.1,a.2.trans b.2.1⟩
 | .rng lo hi K,vs,o=>by
  have a:=lo_id (K (lrS vs o lo hi) (lrF o)) vs (lrO o lo hi)
  have b:=lrO_id o lo hi
  exact⟨a.1.trans b.1,a.2.trans b.2.1⟩
 | .chg c K,vs,o=>by
  have a:=lo_id (K (lcF o c)) vs (lcO o c)
  have b:=lcO_id o c
  exact⟨a.1.trans b.1,a.2.trans b.2⟩
theorem set_set {d:Dk} {o o':Ox} (e:o.id=o'.id):opSet (opSet d o) o'=opSet d o':=by
 unfold opSet
 simp only [List.map_map]
 congr 1
 refine List.map_congr_left (fun x _=>?_)
 show (if (if x.id=o.id then o else x).id=o'.id then o' else if x.id=o.id then o else x)=_
 by_cases h:x.id=o.id
 ·rw[if_pos h,if_pos e,if_pos (h.trans e)]
 ·rw[if_neg h]
theorem set_ids {d:Dk} (h:d.op.Pairwise (fun a b=>a.id<b.id)) (o':Ox):(opSet d o').op.Pairwise (fun a b=>a.id<b.id):=by
 show (d.op.map _).Pairwise _
 refine List.pairwise_map.2 (h.imp (fun {a b} hab=>?_))
 by_cases ha:a.id=o'.id
 ·rw[if_pos ha]
  by_cases hb:b.id=o'.id
  ·omega
  ·rw[if_neg hb];omega
 ·rw[if_neg ha]
  by_cases hb:b.id=o'.id
  ·rw[if_pos hb];omega
  ·rw[if_neg hb];exact hab
theorem set_o {d:Dk} {i:Int} {o o':Ox} (h:opI d i=some o) (e:o'.id=o.id):opI (opSet d o') i=some o':=by
 have q:=(opI_some h).2
 rw[opI_set (o:=o) (by rw[q];exact h) e i,if_pos q.symm]
theorem run_lo:∀ (g:Pg) (d:Dk) (i:Int) (o:Ox),d.op.Pairwise (fun a b=>a.id<b.id)->opI d i=some o->runA g d i=(loR g d.vs o).1/\runF g d i=(loR g d.vs o).2.1/\runD g d i=opSet d (loR g d.vs o).2.2
 | .ret a f,d,i,o,hp,h=>⟨rfl,rfl,(opSet_self hp (opI_some h).1).symm⟩
 | .get k K,d,i,o,hp,h=>by
  have e1:dgS d i k=lgS d.vs o k:=by unfold dgS;rw[h];rfl
  have e2:dgF d i k=lgF d.vs o k:=by unfold dgF;rw[h];rfl
  have e3:dgD d i k=opSet d (lgO o k):=by
   unfold dgD lgO
   rw[h]
   simp only
   split
   ·split
    ·exact (opSet_self hp (opI_some h).1).symm
    ·rfl
   ·exact (opSet_self hp (opI_some h).1).symm
  have q:=run_lo (K (lgS d.vs o k) (lgF d.vs o k)) (opSet d (lgO o k)) i (lgO o k) (set_ids hp _) (set_o h (lgO_id o k).1)
  rw[set_set (by rw[(lo_id _ _ _).1])] at q
  show runA (K (dgS d i k) (dgF d i k)) (dgD d i k) i=_/\runF (K (dgS d i k) (dgF d i k)) (dgD d i k) i=_/\runD (K (dgS d i k) (dgF d i k)) (dgD d i k) i=_
  rw[e1,e2,e3]
  exact q
 | .rng lo hi K,d,i,o,hp,h=>by
  have e1:drS d i lo hi=lrS d.vs o lo hi:=by unfold drS;rw[h];rfl
  have e2:drF d i=lrF o:=by unfold drF;rw[h];rfl
  have e3:drD d i lo hi=opSet d (lrO o lo hi):=by
   unfold drD lrO
   rw[h]
   simp only
   split
   ·exact (opSet_self hp (opI_some h).1).symm
   ·rfl
  have q:=run_lo (K (lrS d.vs o lo hi) (lrF o)) (opSet d (lrO o lo hi)) i (lrO o lo hi) (set_ids hp _) (set_o h (lrO_id o lo hi).1)
  rw[set_set (by rw[(lo_id _ _ _).1])] at q
  show runA (K (drS d i lo hi) (drF d i)) (drD d i lo hi) i=_/\runF (K (drS d i lo hi) (drF d i)) (drD d i lo hi) i=_/\runD (K (drS d i lo hi) (drF d i)) (drD d i lo hi) i=_
  rw[e1,e2,e3]
  exact q
 | .chg c K,d,i,o,hp,h=>by
  have e2:dcF d i c=lcF o c:=by unfold dcF;rw[h];rfl
  have e3:dcD d i c=opSet d (lcO o c):=by
   unfold dcD lcO
   rw[h]
   simp only
   split
   ·split
    ·exact (opSet_self hp (opI_some h).1).symm
    ·rfl
   ·exact (opSet_self hp (opI_some h).1).symm
  have q:=run_lo (K (lcF o c)) (opSet d (lcO o c)) i (lcO o c) (set_ids hp _) (set_o h (lcO_id o c).1)
  rw[set_set (by rw[(lo_id _ _ _).1])] at q
  show runA (K (dcF d i c)) (dcD d i c) i=_/\runF (K (dcF d i c)) (dcD d i c) i=_/\runD (K (dcF d i c)) (dcD d i c) i=_
  rw[e2,e3]
  exact q
end Go.Proofs.YtmghmpclmphccaaGreatDoor.Pa
namespace Go.Proofs.YtmghmpclmphccaaGreatDoor.Pa
open Go.RowKit Vs
theorem lgO_ext (o:Ox) (k:ByteArray):(∃ ks,(lgO o k).keys=o.keys++ks)/\(∃ ss,(lgO o k).spans=o.spans++ss):=by
 unfold lgO
 split
 ·split
  ·exact⟨⟨[],(List.append_nil _).symm⟩,⟨[],(List.append_nil _).symm⟩⟩
  ·exact⟨⟨[k],rfl⟩,⟨[],(List.append_nil _).symm⟩⟩
 ·exact⟨⟨[],(List.append_nil _).symm⟩,⟨[],(List.append_nil _).symm⟩⟩
theorem lrO_ext (o:Ox) (lo hi:ByteArray):(∃ ks,(lrO o lo hi).keys=o.keys++ks)/\(∃ ss,(lrO o lo hi).spans=o.spans++ss):=by
 unfold lrO
 split
 ·exact⟨⟨[],(List.append_nil _).symm⟩,⟨[],(List.append_nil _).symm⟩⟩
 ·exact⟨⟨[],(List.append_nil _).symm⟩,⟨[(lo,hi)],rfl⟩⟩
theorem lcO_ext (o:Ox) (c:Chg):(∃ ks,(lcO o c).keys=o.keys++ks)/\(∃ ss,(lcO o c).spans=o.spans++ss):=by
 unfold lcO
 split
 ·split <;> exact⟨⟨[],(List.append_nil _).symm⟩,⟨[],(List.append_nil _).symm⟩⟩
 ·exact⟨⟨[],(List.append_nil _).symm⟩,⟨[],(List.append_nil _).symm⟩⟩
theorem lcO_ris {o:Ox} (c:Chg) (h:risC o.own):risC (lcO o c).own:=by
 unfold lcO
 split
 ·split
  ·exact h
  ·exact ris_insC h
 ·exact h
theorem ext_trans {α : Type} {a b c:List α} (h1:∃ x,b=a++x) (h2:∃ y,c=b++y):∃ z,c=a++z:=by
 obtain⟨x,rfl⟩:=h1
 obtain⟨y,rfl⟩:=h2
 exact⟨x++y,List.append_assoc _ _ _⟩
theorem lo_ext:∀ (g:Pg) (vs:List Ver) (o:Ox),(∃ ks,(loR g vs o).2.2.keys=o.keys++ks)/\(∃ ss,(loR g vs o).2.2.spans=o.spans++ss)
 | .ret _ _,_,_=>⟨⟨[],(List.append_nil _).symm⟩,⟨[],(List.append_nil _).symm⟩⟩
 | .get k K,vs,o=>by
  have a:=lo_ext (K (lgS vs o k) (lgF vs o k)) vs (lgO o k)
  exact⟨ext_trans (lgO_ext o k).1 a.1,ext_trans (lgO_ext o k).2 a.2⟩
 | .rng lo hi K,vs,o=>by
  have a:=lo_ext (K (lrS vs o lo hi) (lrF o)) vs (lrO o lo hi)
  exact⟨ext_trans (lrO_ext o lo hi).1 a.1,ext_trans (lrO_ext o lo hi).2 a.2⟩
 | .chg c K,vs,o=>by
  have a:=lo_ext (K (lcF o c)) vs (lcO o c)
  exact⟨ext_trans (lcO_ext o c).1 a.1,ext_trans (lcO_ext o c).2 a.2⟩
theorem lo_ris:∀ (g:Pg) (vs:List Ver) (o:Ox),risC o.own->risC (loR g vs o).2.2.own
 | .ret _ _,_,_,h=>h
 | .get k K,vs,o,h=>lo_ris (K (lgS vs o k) (lgF vs o k)) vs (lgO o k) (by rw[(lgO_id o k).2.2];exact h)
 | .rng lo hi K,vs,o,h=>lo_ris (K (lrS vs o lo hi) (lrF o)) vs (lrO o lo hi) (by rw[(lrO_id o lo hi).2.2];exact h)
 | .chg c K,vs,o,h=>lo_ris (K (lcF o c)) vs (lcO o c) (lcO_ris c h)
theorem seeO_agr {vs ws:List Ver} {a b:Int} {own:List Chg} {k:ByteArray} (h:vget vs k a=vget ws k b):seeO ws b own k=seeO vs a own k:=by
 unfold seeO
 cases ownC own k with
 | none=>exact h.symm
 | some c=>rfl
theorem lo_re:∀ (g:Pg) {vs ws:List Ver} {s t:Int} (_:OkT vs s) (_:OkT ws t) (o:Ox) (_:risC o.own) (i b:Int),Agr vs o.sees ws b (loR g vs o).2.2->loR g ws (reO o i b)=((loR g vs o).1,(loR g vs o).2.1,reO (loR g vs o).2.2 i b)
 | .ret _ _,_,_,_,_,_,_,_,_,_,_,_=>rfl
 | .get k K,vs,ws,_,_,hv,hw,o,hr,i,b,ha=>by
  have x:=lo_ext (K (lgS vs o k) (lgF vs o k)) vs (lgO o k)
  have ha1:Agr vs o.sees ws b (lgO o k):=Agr.less ha x.1 x.2
  have e:lgS ws (reO o i b) k=lgS vs o k/\lgF ws (reO o i b) k=lgF vs o k/\lgO (reO o i b) k=reO (lgO o k) i b:=by
   by_cases c0:shF k ByteArray.empty=0
   ·by_cases c:100<=o.asked
    ·have c':100<=(reO o i b).asked:=c
     simp only [lgS,lgF,lgO,c0,c,c',if_true]
     exact⟨trivial,trivial,trivial⟩
    ·have c':¬ 100<=(reO o i b).asked:=c
     have e1:lgO o k=askK o k:=by unfold lgO;rw[if_pos c0,if_neg c]
     rw[e1] at ha1
     have h1:=seeO_agr (own:=o.own) (ha1.1 k (List.mem_append.2 (.inr (List.mem_singleton.2 rfl))))
     have h2:seeO ws (reO o i b).sees (reO o i b).own k=seeO vs o.sees o.own k:=h1
     simp only [lgS,lgF,lgO,c0,c,c',if_true,if_false,h2]
     exact⟨trivial,trivial,rfl⟩
   ·simp only [lgS,lgF,lgO,c0,if_false]
    exact⟨trivial,trivial,trivial⟩
  have q:=lo_re (K (lgS vs o k) (lgF vs o k)) hv hw (lgO o k) (by rw[(lgO_id o k).2.2];exact hr) i b (by rw[(lgO_id o k).2.1];exact ha)
  show loR (K (lgS ws (reO o i b) k) (lgF ws (reO o i b) k)) ws (lgO (reO o i b) k)=_
  rw[e.1,e.2.1,e.2.2]
  exact q
 | .rng lo hi K,vs,ws,_,_,hv,hw,o,hr,i,b,ha=>by
  have x:=lo_ext (K (lrS vs o lo hi) (lrF o)) vs (lrO o lo hi)
  have ha1:Agr vs o.sees ws b (lrO o lo hi):=Agr.less ha x.1 x.2
  have e:lrS ws (reO o i b) lo hi=lrS vs o lo hi/\lrF (reO o i b)=lrF o/\lrO (reO o i b) lo hi=reO (lrO o lo hi) i b:=by
   by_cases c:100<=o.asked
   ·have c':100<=(reO o i b).asked:=c
    simp only [lrS,lrF,lrO,c,c',if_true]
    exact⟨trivial,trivial,trivial⟩
   ·have c':¬ 100<=(reO o i b).asked:=c
    have e1:lrO o lo hi=askR o lo hi:=by unfold lrO;rw[if_neg c]
    rw[e1] at ha1
    have h2:rngO ws (reO o i b).sees (reO o i b).own lo hi=rngO vs o.sees o.own lo hi:=rngO_eq hw hv hr (fun k hk=>(ha1.2 (lo,hi) (List.mem_append.2 (.inr (List.mem_singleton.2 rfl))) k hk).symm)
    simp only [lrS,lrF,lrO,c,c',if_false,h2]
    exact⟨trivial,trivial,rfl⟩
  have q:=lo_re (K (lrS vs o lo hi) (lrF o)) hv hw (lrO o lo hi) (by rw[(lrO_id o lo hi).2.2];exact hr) i b (by rw[(lrO_id o lo hi).2.1];exact ha)
  show loR (K (lrS ws (reO o i b) lo hi) (lrF (reO o i b))) ws (lrO (reO o i b) lo hi)=_
  rw[e.1,e.2.1,e.2.2]
  exact q
 | .chg c K,vs,ws,_,_,hv,hw,o,hr,i,b,ha=>by
  have e:lcF (reO o i b) c=lcF o c/\lcO (reO o i b) c=reO (lcO o c) i b:=by
   refine⟨rfl,?_⟩
   unfold lcO
   by_cases c0:shF c.k c.v=0
   ·rw[if_pos c0,if_pos c0]
    by_cases c1:20<(insC o.own c).length
    ·rw[if_pos c1,if_pos (show 20<(insC (reO o i b).own c).length from c1)]
    ·rw[if_neg c1,if_neg (show ¬ 20<(insC (reO o i b).own c).length from c1)];rfl
   ·rw[if_neg c0,if_neg c0]
  have q:=lo_re (K (lcF o c)) hv hw (lcO o c) (lcO_ris c hr) i b (by rw[(lcO_id o c).2];exact ha)
  show loR (K (lcF (reO o i b) c)) ws (lcO (reO o i b) c)=_
  rw[e.1,e.2]
  exact q
def nxC (vs:List Ver) (o:Ox) (c:Cl):Ox:=(loR (doP c) vs o).2.2
def tlC (vs:List Ver) (o:Ox) (c:Cl):An×Int:=((loR (doP c) vs o).1,(loR (doP c) vs o).2.1)
def rnC (vs:List Ver):Ox->List Cl->Ox
 | o,[]=>o
 | o,c :: r=>rnC vs (nxC vs o c) r
def tlR (vs:List Ver):Ox->List Cl->List (An×Int)
 | _,[]=>[]
 | o,c :: r=>tlC vs o c :: tlR vs (nxC vs o c) r
theorem rnC_app (vs:List Ver):∀ (cs:List Cl) (o:Ox) (c:Cl),rnC vs o (cs ++ [c])=nxC vs (rnC vs o cs) c/\tlR vs o (cs ++ [c])=tlR vs o cs ++ [tlC vs (rnC vs o cs) c]
 | [],_,_=>⟨rfl,rfl⟩
 | x :: r,o,c=>by
  have:=rnC_app vs r (nxC vs o x) c
  exact⟨this.1,congrArg (tlC vs o x :: ·) this.2⟩
theorem tlR_len (vs:List Ver):∀ (cs:List Cl) (o:Ox),(tlR vs o cs).length=cs.length
 | [],_=>rfl
 | x :: r,o=>congrArg (· + 1) (tlR_len vs r (nxC vs o x))
theorem tlR_at (vs:List Ver):∀ (cs:List Cl) (o:Ox) (j:Nat) (c:Cl),cs[j]? = some c->(tlR vs o cs)[j]? = some (tlC vs (rnC vs o (cs.take j)) c)
 | c0 :: r,o,0,c,h=>by cases (Option.some.inj h);rfl
 | c0 :: r,o,j+1,c,h=>by
  have:=tlR_at vs r (nxC vs o c0) j c (by simpa using h)
  simpa [tlR,rnC] using this
theorem rnC_id (vs:List Ver):∀ (cs:List Cl) (o:Ox),(rnC vs o cs).id=o.id/\(rnC vs o cs).sees=o.sees
 | [],_=>⟨rfl,rfl⟩
 | c :: r,o=>by
  have a:=rnC_id vs r (nxC vs o c)
  have b:=lo_id (doP c) vs o
  exact⟨a.1.trans b.1,a.2.trans b.2⟩
theorem rnC_ext (vs:List Ver):∀ (cs:List Cl) (o:Ox),(∃ ks,(rnC vs o cs).keys=o.keys++ks)/\(∃ ss,(rnC vs o cs).spans=o.spans++ss)
 | [],_=>⟨⟨[],(List.append_nil _).symm⟩,⟨[],(List.append_nil _).symm⟩⟩
 | c :: r,o=>by
  have a:=rnC_ext vs r (nxC vs o c)
  have b:=lo_ext (doP c) vs o
  exact⟨ext_trans b.1 a.1,ext_trans b.2 a.2⟩
theorem rnC_re {vs ws:List Ver} {s t:Int} (hv:OkT vs s) (hw:OkT ws t) (i b:Int):∀ (cs:List Cl) (o:Ox),risC o.own->Agr vs o.sees ws b (rnC vs o cs)->rnC ws (reO o i b) cs=reO (rnC vs o cs) i b/\tlR ws (reO o i b) cs=tlR vs o cs
 | [],_,_,_=>⟨rfl,rfl⟩
 | c :: r,o,hr,ha=>by
  have x:=rnC_ext vs r (nxC vs o c)
  have q:=lo_re (doP c) hv hw o hr i b (Agr.less ha x.1 x.2)
  have e1:nxC ws (reO o i b) c=reO (nxC vs o c) i b:=by unfold nxC;rw[q]
  have e2:tlC ws (reO o i b) c=tlC vs o c:=by unfold tlC;rw[q]
  have y:=rnC_re hv hw i b r (nxC vs o c) (lo_ris _ _ _ hr) (by rw[show (nxC vs o c).sees=o.sees from (lo_id _ _ _).2];exact ha)
  refine⟨?_,?_⟩
  ·show rnC ws (nxC ws (reO o i b) c) r=_
   rw[e1];exact y.1
  ·show tlC ws (reO o i b) c :: tlR ws (nxC ws (reO o i b) c) r=_
   rw[e1,e2,y.2];rfl
def Ql (q:Bool):Pg->Prop
 | .ret _ f=>f≠0 \/ q=false
 | .get _ K=>∀ v f,Ql q (K v f)
 | .rng _ _ K=>∀ l f,Ql q (K l f)
 | .chg _ K=>q=true /\ ∀ f,∃ a,K f=.ret a f
theorem insC_ne (l:List Chg) (c:Chg):insC l c ≠ []:=by
 cases l with
 | nil=>simp[insC]
 | cons x r=>
  unfold insC
  split
  ·simp
  ·split <;> simp
theorem ql_lo (q:Bool):∀ (g:Pg) (vs:List Ver) (o:Ox),Ql q g->((q=false \/ (loR g vs o).2.1≠0)->(loR g vs o).2.2.own=o.own)/\(q=true->(loR g vs o).2.1=0->(loR g vs o).2.2.own ≠ [])
 | .ret _ f,_,o,h=>by
  refine⟨fun _=>rfl,fun hq hf=>?_⟩
  rcases h with h|h
  ·exact absurd hf h
  ·rw[h] at hq;cases hq
 | .get k K,vs,o,h=>by
  have a:=ql_lo q (K (lgS vs o k) (lgF vs o k)) vs (lgO o k) (h _ _)
  rw[(lgO_id o k).2.2] at a
  exact a
 | .rng lo hi K,vs,o,h=>by
  have a:=ql_lo q (K (lrS vs o lo hi) (lrF o)) vs (lrO o lo hi) (h _ _)
  rw[(lrO_id o lo hi).2.2] at a
  exact a
 | .chg c K,vs,o,h=>by
  obtain⟨hq,hK⟩:=h
  obtain⟨a,e⟩:=hK (lcF o c)
  have e1:loR (.chg c K) vs o=(a,lcF o c,lcO o c):=by show loR (K (lcF o c)) vs (lcO o c)=_;rw[e];rfl
  rw[e1]
  show ((q=false \/ lcF o c≠0)->(lcO o c).own=o.own)/\(q=true->lcF o c=0->(lcO o c).own ≠ [])
  unfold lcF lcO
  by_cases c0:shF c.k c.v=0
  ·rw[if_pos c0,if_pos c0]
   by_cases c1:20<(insC o.own c).length
   ·rw[if_pos c1,if_pos c1]
    exact⟨fun _=>rfl,fun _ h=>by cases h⟩
   ·rw[if_neg c1,if_neg c1]
    refine⟨fun h=>?_,fun _ _=>insC_ne _ _⟩
    rcases h with h|h
    ·rw[h] at hq;cases hq
    ·exact absurd rfl h
  ·rw[if_neg c0,if_neg c0]
   exact⟨fun _=>rfl,fun _ h=>by cases h⟩
theorem ql_err {q:Bool} {f:Int} (h:f≠0):Ql q (err f):=.inl h
theorem ql_asks {q:Bool} {k:ByteArray} {K:ByteArray->Bool->Pg} (h:∀ v b,Ql q (K v b)):Ql q (asks k K):=by
 intro v f
 show Ql q (if f=4 then K ByteArray.empty false else if f=0 then K v true else err f)
 split
 ·exact h _ _
 ·split
  ·exact h _ _
  ·exact ql_err ‹_›
theorem ql_allL {q:Bool} {n:ByteArray} {K:List Lot->Pg} (h:∀ l,Ql q (K l)):Ql q (allL n K):=by
 intro l f
 show Ql q (if f=0 then K (lots l) else err f)
 split
 ·exact h _
 ·exact ql_err ‹_›
theorem ql_allA {q:Bool} {n:ByteArray} {K:List Int->Pg} (h:∀ l,Ql q (K l)):Ql q (allA n K):=by
 intro l f
 show Ql q (if f=0 then K (plcd l) else err f)
 split
 ·exact h _
 ·exact ql_err ‹_›
theorem ql_puts (k v:ByteArray) (a:An):Ql true (puts k v a):=by
 refine⟨rfl,fun f=>?_⟩
 by_cases h:f=0
 ·exact⟨a,by show (if f=0 then _ else _)=_;rw[if_pos h,h]⟩
 ·exact⟨an0,by show (if f=0 then _ else _)=_;rw[if_neg h];rfl⟩
theorem ql_drops (k:ByteArray):Ql true (drops k):=⟨rfl,fun _=>⟨an0,rfl⟩⟩
def chC (c:Cl):Bool := !(decide (c.what=8) || decide (c.what=9))
theorem ql_do (c:Cl):Ql (chC c) (doP c):=by
 unfold doP
 by_cases hc:clF c=0
 ·rw[if_pos hc,pWork_is]
  refine ql_asks (fun _ b=>?_)
  have T:c.what≠8->c.what≠9->chC c=true:=fun h1 h2=>by unfold chC;simp[h1,h2]
  unfold pBody
  by_cases w1:c.what=1
  ·rw[if_pos w1,T (by omega) (by omega)]
   unfold pNet
   split
   ·exact ql_err (by decide)
   ·exact ql_puts _ _ _
  rw[if_neg w1]
  by_cases hb:b=false
  ·rw[if_pos hb];exact ql_err (by decide)
  rw[if_neg hb]
  by_cases w2:c.what=2
  ·rw[if_pos w2,T (by omega) (by omega)]
   refine ql_asks (fun _ b=>?_)
   split
   ·exact ql_err (by decide)
   ·exact ql_puts _ _ _
  rw[if_neg w2]
  by_cases w3:c.what=3
  ·rw[if_pos w3,T (by omega) (by omega)]
   refine ql_asks (fun _ b=>?_)
   split
   ·refine ql_allL (fun l=>ql_allA (fun u=>?_))
    split
    ·exact ql_err (by decide)
    ·exact ql_drops _
   ·exact ql_err (by decide)
  rw[if_neg w3]
  by_cases w4:c.what=4
  ·rw[if_pos w4,T (by omega) (by omega)]
   refine ql_allL (fun l=>ql_asks (fun _ b=>?_))
   split
   ·exact ql_err (by decide)
   ·split
    ·exact ql_err (by decide)
    ·exact ql_puts _ _ _
  rw[if_neg w4]
  by_cases w5:c.what=5
  ·rw[if_pos w5,T (by omega) (by omega)]
   refine ql_asks (fun _ b=>?_)
   split
   ·exact ql_drops _
   ·exact ql_err (by decide)
  rw[if_neg w5]
  by_cases w6:c.what=6
  ·rw[if_pos w6,T (by omega) (by omega)]
   unfold pNextP allW
   refine ql_allL (fun l=>?_)
   split
   ·dsimp only
    split
    ·split
     ·exact ql_err (by decide)
     ·exact ql_puts _ _ _
    ·exact ql_err ‹_›
   ·exact ql_err (by decide)
  rw[if_neg w6]
  by_cases w7:c.what=7
  ·rw[if_pos w7,T (by omega) (by omega)]
   unfold pNextA allW
   refine ql_allL (fun l=>?_)
   split
   ·dsimp only
    refine ql_allA (fun u=>?_)
    split
    ·exact ql_puts _ _ _
    ·exact ql_err ‹_›
   ·exact ql_err (by decide)
  rw[if_neg w7]
  by_cases w8:c.what=8
  ·rw[if_pos w8,show chC c=false by unfold chC;simp[w8]]
   exact ql_allL (fun l=>.inr rfl)
  rw[if_neg w8]
  have w9:c.what=9:=by have:=clF_in hc;omega
  rw[show chC c=false by unfold chC;simp[w9]]
  refine ql_asks (fun _ b=>?_)
  split
  ·exact .inr rfl
  ·refine ql_allL (fun l=>?_)
   split
   ·exact .inr rfl
   ·exact .inr rfl
 ·rw[if_neg hc];exact ql_err hc
def chL (cs:List Cl) (td:List (An×Int)):Bool:=(cs.zip td).any fun p=>chC p.1&&decide (p.2.2=0)
theorem nxC_own (vs:List Ver) (o:Ox) (c:Cl):((chC c&&decide ((tlC vs o c).2=0))=true->(nxC vs o c).own ≠ [])/\((chC c&&decide ((tlC vs o c).2=0))=false->(nxC vs o c).own=o.own):=by
 have q:=ql_lo (chC c) (doP c) vs o (ql_do c)
 refine⟨fun h=>?_,fun h=>?_⟩
 ·rw[Bool.and_eq_true] at h
  exact q.2 h.1 (of_decide_eq_true h.2)
 ·refine q.1 ?_
  cases hc:chC c with
  | false=>exact .inl rfl
  | true=>rw[hc,Bool.true_and] at h;exact .inr (of_decide_eq_false h)
theorem lc_keep {o:Ox} (c:Chg) (h:o.own ≠ []):(lcO o c).own ≠ []:=by
 unfold lcO
 split
 ·split
  ·exact h
  ·exact insC_ne _ _
 ·exact h
theorem lo_keep:∀ (g:Pg) (vs:List Ver) (o:Ox),o.own ≠ []->(loR g vs o).2.2.own ≠ []
 | .ret _ _,_,_,h=>h
 | .get k K,vs,o,h=>lo_keep (K (lgS vs o k) (lgF vs o k)) vs (lgO o k) (by rw[(lgO_id o k).2.2];exact h)
 | .rng lo hi K,vs,o,h=>lo_keep (K (lrS vs o lo hi) (lrF o)) vs (lrO o lo hi) (by rw[(lrO_id o lo hi).2.2];exact h)
 | .chg c K,vs,o,h=>lo_keep (K (lcF o c)) vs (lcO o c) (lc_keep c h)
theorem rnC_keep (vs:List Ver):∀ (cs:List Cl) (o:Ox),o.own ≠ []->(rnC vs o cs).own ≠ []
 | [],_,h=>h
 | c :: r,o,h=>rnC_keep vs r (nxC vs o c) (lo_keep _ _ _ h)
theorem rnC_chg (vs:List Ver):∀ (cs:List Cl) (o:Ox),o.own=[]->chL cs (tlR vs o cs) = !decide ((rnC vs o cs).own=[])
 | [],o,h=>by simp[chL,rnC,h]
 | c :: r,o,h=>by
  obtain⟨n1,n2⟩:=nxC_own vs o c
  show ((chC c&&decide ((tlC vs o c).2=0)) || chL r (tlR vs (nxC vs o c) r)) = !decide ((rnC vs (nxC vs o c) r).own=[])
  cases e:(chC c&&decide ((tlC vs o c).2=0)) with
  | true=>
   rw[Bool.true_or,decide_eq_false (rnC_keep vs r _ (n1 e))];rfl
  | false=>
   rw[Bool.false_or]
   exact rnC_chg vs r (nxC vs o c) ((n2 e).trans h)
end Go.Proofs.YtmghmpclmphccaaGreatDoor.Pa
namespace Go.Proofs.YtmghmpclmphccaaGreatDoor.Pa
open Go.RowKit Go.Maps Vs
structure Hh (w:World) (H B M:Nat):Prop where
 c0:w.cell? ⟨H,0,none⟩=some (.pointer (some ⟨B,0,none⟩))
 c1:w.cell? ⟨H,1,none⟩=some (.map (some M))
theorem Hh.lt {w:World} {H B M:Nat} (h:Hh w H B M):H<w.heap.size:=World.block_lt_of_cell? _ _ h.c0
theorem Hh.but {E:Nat->Prop} {w w':World} {H B M:Nat} (h:Hh w H B M) (hb:But E w w') (hE:¬ E H):Hh w' H B M:=⟨(hb.cell (p:=⟨H,0,none⟩) h.lt hE).trans h.c0,(hb.cell (p:=⟨H,1,none⟩) h.lt hE).trans h.c1⟩
theorem Hh.step {w w':World} {H B M:Nat} (h:Hh w H B M) (hb:Below w.heap.size w w'):Hh w' H B M:=h.but (E:=fun _=>False) (.below hb) id
section
variable {T:Td} {w:World}
theorem hlNew (V:DFace T) (room:Int) (en:En w) (h0:0<=room) (h1:room<=100000) :
  Calls Tryz.prog 7 #[.int .i64 room] w fun e w'=>∃ H B M F,e=.returned (.tuple #[.pointer (some ⟨H,0,none⟩),.nilIface])/\Ds T w' F B (dk0 room)/\Hh w' H B M/\w'.ownsMap Tryz.prog 9 anyE M 0 (.map []) /\ ¬ F H /\ ¬ F M/\H≠M/\(∀ j,F j->w.heap.size<=j)/\w.heap.size<=H/\w.heap.size<=M/\Below w.heap.size w w':=by
 have hmm:=@run_makeMap Tryz.prog
 have K:=V.newOk w h0 h1
 have glt:∀ {j},Gl j->j<w.heap.size:=fun hj=>en.lt hj
 have GH:Hid _:=@glt
 clear glt
 go_enter Tryz.func7,Tryz.ntmps7
 go_wp2_with (go_at_call 25;refine K.mono ?_;clear K;rintro e w1 ⟨B,rfl,hT,hb1⟩)
 go_ret2
 have b2:=below_al (below_al (below_self w1) (.map #[] 0)) (.cells #[.pointer (some ⟨B,0,none⟩),.map (some w1.heap.size)] 75)
 have s1:=hb1.size
 refine⟨w1.heap.size+1,B,w1.heap.size,fun j=>w.heap.size<=j/\j<w1.heap.size,rfl,⟨V.step hT b2,fun j hj=>?_,fun j hj q=>?_,(en.step hb1).step b2⟩,⟨?_,?_⟩,(World.ownsMap_made w1 _ _ _).alloc _,fun q=>by have:=q.2;omega,fun q=>by have:=q.2;omega,by omega,fun j hj=>hj.1,by omega,s1,below_via hb1 b2⟩
 ·have:=b2.size
  have:=hj.2
  omega
 ·have:=GH.out q
  have:=hj.1
  omega
 ·go_simp
 ·go_simp
end
end Go.Proofs.YtmghmpclmphccaaGreatDoor.Pa
