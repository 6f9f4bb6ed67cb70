/- -/
import Derived.Test.YtmghmpclmphccaaGreatDoorKPlV
import Derived.Test.YtmghmpclmphccaaGreatDoorKHrMath2
import Derived.Test.YtmghmpclmphccaaGreatDoorKAdCutMath
import Derived.Test.YtmghmpclmphccaaGreatDoorKAppOne
import Derived.Test.YtmghmpclmphccaaGreatDoorKVsMath
import Derived.Test.YtmghmpclmphccaaGreatDoorKVsBase
set_option maxHeartbeats 8000000
set_option maxRecDepth 100000
namespace Go.Proofs.YtmghmpclmphccaaGreatDoor.Pa
open Go.RowKit Go.Maps Vs
def haF (d:Dk) (S:Ses) (k:ByteArray) (c:Cl):Int:=match sId S k with
 | none=>4
 | some i=>runF (doP c) d i
def haA (d:Dk) (S:Ses) (k:ByteArray) (c:Cl):An:=match sId S k with
 | none=>an0
 | some i=>runA (doP c) d i
def haD (d:Dk) (S:Ses) (k:ByteArray) (c:Cl):Dk:=match sId S k with
 | none=>d
 | some i=>runD (doP c) d i
section
variable {T:Td} {w w':World} {G F:Nat->Prop} {H B M n:Nat} {D:DataW Value} {d:Dk} {S:Ses}
theorem hallAsk (V:DFace T) (h:Hl T w G H d S) (ok:OkD d) (sm:Sm d) (k:ByteArray) (hk:k.size<=maxLen) (c:Cl) :
  Calls Tryz.prog 11 #[.pointer (some ⟨H,0,none⟩),.string k,clV c] w fun e w'=>∃ u,e=.returned (.tuple #[anV (haA d S k c) u,ev (haF d S k c)])/\w'.ownsRow w.heap.size 31 2 u (haA d S k c).l.length (pfV (haA d S k c).l) /\ ∃ G',Hl T w' G' H (haD d S k c) S/\(∀ j,G' j->Nw G w w' j)/\But G w w' /\ ∀ j,u.ownBlock=some j -> ¬ G' j:=by
 obtain⟨F,B,M,n,D,hx⟩:=h
 obtain⟨W,hW⟩:∃ W,W=(w.alloc (.cells (clA c) 33)).alloc (.cells #[.int .i64 0,.int .i64 0,.int .i64 0,.string ⟨#[]⟩,.slice none 0 0] 46):=⟨_,rfl⟩
 have bW:Below w.heap.size w W:=by rw[hW];exact below_al (below_al (below_self w) _) _
 obtain⟨bb,hbb⟩:∃ bb,bb=w.heap.size:=⟨_,rfl⟩
 have cb:Cb W bb c:=by rw[hW,hbb];exact (Cb.new w c _).step (below_al (below_self _) _)
 have ab:Ab W (bb+1) (.int .i64 0) (.int .i64 0) (.int .i64 0) (.string ⟨#[]⟩) (.slice none 0 0):=by
  have:=Ab.new (w.alloc (.cells (clA c) 33)) (.int .i64 0) (.int .i64 0) (.int .i64 0) (.string ⟨#[]⟩) (.slice none 0 0) 46
  rw[World.size_alloc] at this
  rw[hW,hbb];exact this
 have hxW:=hx.step V bW
 have KF:=hlFind hxW k hk
 have lW:bb+1<W.heap.size:=ab.lt
 have hlb:∀ j,F j->j<w.heap.size:=hx.ds.lt
 have nb0:¬ F bb:=fun q=>by have:=hlb _ q;omega
 have nb1:¬ F (bb+1):=fun q=>by have:=hlb _ q;omega
 have lH:=hx.hh.lt
 have lM:=hx.ltM
 unfold haA haF haD
 unfold sN sF at KF
 have FIN:∀ {d2:Dk} {F2:Nat->Prop} {wx w3 wf:World} {u:Value} {m:Nat} {xs:List Value},Below W.heap.size W wx->Ds T w3 F2 B d2->(∀ j,F2 j->Nw F wx w3 j)->But F wx w3->w3.ownsRow wx.heap.size 31 2 u m xs->(∀ j,u.ownBlock=some j -> ¬ F2 j)->But (fun j=>j=bb+1) w3 wf->wf.ownsRow w.heap.size 31 2 u m xs /\ ∃ G',Hl T wf G' H d2 S/\(∀ j,G' j->Nw G w wf j)/\But G w wf /\ ∀ j,u.ownBlock=some j -> ¬ G' j:=by
  intro d2 F2 wx w3 wf u m xs bx h3 hn3 b3 row sep hb
  have sx:=bx.size
  have sw:=bW.size
  obtain⟨q1,q2,q3⟩:=do_fin (F:=F) (F1:=F) (w:=w) (wx:=wx) (ab:=bb+1) V hx.ds.en (.below (below_via bW bx)) (fun _ hj=>.inl hj) h3 hn3 b3 (by omega) (by omega) nb1 hb
  have row':wf.ownsRow w.heap.size 31 2 u m xs:=ownMono (by omega) (row_but row hb (fun j hj q=>by omega))
  obtain⟨G',g1,g2,g3⟩:=hx.desk q1 q2 q3
  refine⟨row',fun j=>F2 j \/ j=H \/ j=M,?_,?_,g3,fun j hj q=>?_⟩
  ·have nw:∀ {j},F2 j->j<w.heap.size->F j:=fun hj hl=>(q2 _ hj).elim id (fun q=>by have:=q.1;omega)
   refine⟨F2,B,M,n,D,q1,hx.hh.but q3 hx.nH,map_but hx.mp q3 hx.nM,hx.sr,fun q=>hx.nH (nw q lH),fun q=>hx.nM (nw q lM),hx.ne,fun j=>Iff.rfl,hx.nd,fun j hj=>?_⟩
   rcases hj with q|q|q
   ·exact q1.no j q
   ·exact hx.no j ((hx.gs j).2 (.inr (.inl q)))
   ·exact hx.no j ((hx.gs j).2 (.inr (.inr q)))
  ·intro j hj
   rcases hj with q|q|q
   ·exact (q2 j q).imp (fun g=>(hx.gs j).2 (.inl g)) id
   ·exact .inl ((hx.gs j).2 (.inr (.inl q)))
   ·exact .inl ((hx.gs j).2 (.inr (.inr q)))
  ·have hge:wx.heap.size<=j:=(row.lt j hj).1
   rcases q with q|q|q
   ·exact sep j hj q
   ·omega
   ·omega
 have FH:Hid _:=@FIN
 clear FIN
 cases e:sId S k with
 | none=>
  rw[e] at KF
  simp only [Option.getD_none,Option.isSome_none] at KF
  rw[if_neg (by simp),show ev 4=errN 4 from rfl] at KF
  simp only
  rw[show ev 4=errN 4 from rfl]
  obtain⟨a0,a1,a2,a3,a4,af0,af1,af2,af3,af4⟩:=id ab
  have R0:=FH.out (u:=.slice none 0 0) (m:=0) (xs:=[]) (below_self W) hxW.ds (fun j hj=>.inl hj) (But.refl _ _) (World.ownsRow_nil _ _ _ _) (fun j hj=>by cases hj) (but_5 (bb+1) (But.refl (fun j=>j=bb+1) W) (.int .i64 0) (.int .i64 0) (.int .i64 0) (.string ⟨#[]⟩) (.slice none 0 0))
  have RH:Hid _:=R0
  clear R0
  subst hbb
  go_enter Tryz.func11,Tryz.ntmps11
  go_wp2_with (go_at_call 31;rw[<- hW];refine KF.mono ?_;clear KF hW;rintro e w1 ⟨rfl,hw⟩;have:=hw.symm;subst this)
  exact bodyPost_ret (v:=.tuple #[anV an0 (.slice none 0 0),errN 4]) (by simp[results,Tryz.results11,go_sem,an0,(ab.all (.int .i64 0) (.int .i64 0) (.int .i64 0) (.string ⟨#[]⟩) (.slice none 0 0)).c0,(ab.all (.int .i64 0) (.int .i64 0) (.int .i64 0) (.string ⟨#[]⟩) (.slice none 0 0)).c1,(ab.all (.int .i64 0) (.int .i64 0) (.int .i64 0) (.string ⟨#[]⟩) (.slice none 0 0)).c2,(ab.all (.int .i64 0) (.int .i64 0) (.int .i64 0) (.string ⟨#[]⟩) (.slice none 0 0)).c3,(ab.all (.int .i64 0) (.int .i64 0) (.int .i64 0) (.string ⟨#[]⟩) (.slice none 0 0)).c4];rfl) rfl ⟨_,rfl,RH.out⟩
 | some i=>
  rw[e] at KF
  simp only [Option.getD_some,Option.isSome_some] at KF
  rw[if_pos (by simp),ev_0] at KF
  simp only
  have KD:=fun (wx:World) (bx:Below W.heap.size W wx)=>plDo V c i (hxW.ds.step V bx) ok sm
  unfold DoPost at KD
  generalize ev (runF (doP c) d i)=vf at KD ⊢
  generalize runA (doP c) d i=a at KD ⊢
  generalize runD (doP c) d i=d2 at KD ⊢
  have hh1:=hxW.hh
  have sx:∀ {wy:World},Hh wy H B M->Cb wy bb c->wy.cell? ⟨H,0,none⟩=some (.pointer (some ⟨B,0,none⟩))/\wy.cell? ⟨bb,0,none⟩=some (.int .i64 c.what)/\wy.cell? ⟨bb,1,none⟩=some (.string c.nm)/\wy.cell? ⟨bb,2,none⟩=some (.int .i64 c.p.1)/\wy.cell? ⟨bb,3,none⟩=some (.int .i64 c.p.2)/\wy.cell? ⟨bb,4,none⟩=some (.int .i64 c.len)/\wy.cell? ⟨bb,5,none⟩=some (.int .i64 c.ad)/\wy.cell? ⟨bb,6,none⟩=some (.string c.ow):=fun a b=>⟨a.c0,b.q0,b.q1,b.q2,b.q3,b.q4,b.q5,b.q6⟩
  have LT:Hid (∀ j,F j->j<w.heap.size):=hlb
  have HBB:Hid (bb=w.heap.size):=hbb
  have nz1:¬ H=bb+1:=fun q=>by omega
  have nz0:¬ bb=bb+1:=fun q=>by omega
  go_enter Tryz.func11,Tryz.ntmps11
  go_upto_region 4 with (go_at_call 31;rw[<- hW];refine KF.mono ?_;clear KF hW;rintro e w1 ⟨rfl,hw⟩;have:=hw.symm;subst this)
  rw[<- hbb]
  clear hbb lH lM lW hlb
  go_cut [7] from 20 to 28 (fun s7 wy=>s7=vf /\ ∃ pu cu,Ab wy (bb+1) (.int .i64 a.p.1) (.int .i64 a.p.2) (.int .i64 a.ad) (.string a.ow) (.slice pu a.l.length cu)/\wy.ownsRow w.heap.size 31 2 (.slice pu a.l.length cu) a.l.length (pfV a.l) /\ ∃ G',Hl T wy G' H d2 S/\(∀ j,G' j->Nw G w wy j)/\But G w wy /\ ∀ j,(Value.slice pu a.l.length cu).ownBlock=some j -> ¬ G' j)
  case first=>
   go_region_held3 (fun wy=>wy.cell? ⟨H,0,none⟩=some (.pointer (some ⟨B,0,none⟩))/\wy.cell? ⟨bb,0,none⟩=some (.int .i64 c.what)/\wy.cell? ⟨bb,1,none⟩=some (.string c.nm)/\wy.cell? ⟨bb,2,none⟩=some (.int .i64 c.p.1)/\wy.cell? ⟨bb,3,none⟩=some (.int .i64 c.p.2)/\wy.cell? ⟨bb,4,none⟩=some (.int .i64 c.len)/\wy.cell? ⟨bb,5,none⟩=some (.int .i64 c.ad)/\wy.cell? ⟨bb,6,none⟩=some (.string c.ow))
    (with_reducible first|exact sx (hh1.step (below_self W).drew) (cb.step (below_self W).drew)|exact sx hh1 cb|exact sx hh3 cb3|exact sx (hh3.but (but_5 (bb+1) (But.refl (fun j=>j=bb+1) w3) _ _ _ _ _) nz1) (cb3.but (but_5 (bb+1) (But.refl (fun j=>j=bb+1) w3) _ _ _ _ _) nz0))
    (first
     | (go_at_call 32;with_reducible refine (KD _ (below_self W).drew).mono ?_;rintro e w3 ⟨u,rfl,F2,h3,hn3,b3,row3,sep3⟩;obtain⟨pu,cu,rfl⟩:=own_form row3;have hh3:Hh w3 H B M:=(hh1.step (below_self W).drew).but b3 hx.nH;have cb3:Cb w3 bb c:=(cb.step (below_self W).drew).but b3 nb0;have ab3:=(ab.step (below_self W).drew).but b3 nb1;obtain⟨x0,x1,x2,x3,x4,y0,y1,y2,y3,y4⟩:=id ab3))
   all_goals (
    go_wp2_with fail
    go_meet)
   all_goals (exact⟨rfl,pu,cu,ab3.all _ _ _ _ _,FH.out (below_self _).drew h3 hn3 b3 row3 sep3 (but_5 _ (But.refl _ _) _ _ _ _ _)⟩)
  case rest=>
   obtain⟨hs7,pu,cu,abz,R⟩:=hcut
   rw[hs7]
   clear hs7
   have RH:Hid _:=R
   obtain⟨x0,x1,x2,x3,x4,y0,y1,y2,y3,y4⟩:=id abz
   go_wp2_with fail
   exact bodyPost_ret (v:=.tuple #[anV a (.slice pu a.l.length cu),vf]) (by simp[results,Tryz.results11,go_sem,x0,x1,x2,x3,x4]) rfl ⟨_,rfl,RH.out⟩
end
end Go.Proofs.YtmghmpclmphccaaGreatDoor.Pa
namespace Go.Proofs.YtmghmpclmphccaaGreatDoor.Pa
open Go.RowKit Go.Maps Vs
structure H1 (T:Td) (w0:World) (K:Nat->Prop) (w:World) (H:Nat) (d:Dk) (S:Ses):Prop where
 ex:∃ G,Hl T w G H d S /\ ∀ j,K j -> ¬ G j
 kl:∀ j,K j->j<w.heap.size
 old:∀ j,j<w0.heap.size->K j
 bl:Below w0.heap.size w0 w
section
variable {T:Td} {w0 w w':World} {K:Nat->Prop} {H:Nat} {d:Dk} {S:Ses}
theorem H1.op {G:Nat->Prop} {d':Dk} {S':Ses} (h:H1 T w0 K w H d S) (hK:∀ j,K j -> ¬ G j) (hp:Hp T G H w w' d' S'):H1 T w0 K w' H d' S'/\But (fun j=>¬ K j) w w':=by
 obtain⟨G',h1,n1,b1⟩:=hp
 have s:=b1.size
 refine⟨⟨⟨G',h1,fun j hj q=>?_⟩,fun j hj=>Nat.lt_of_lt_of_le (h.kl j hj) s,h.old,But.under2 h.bl b1 h.bl.size (fun i hi q=>hK i (h.old i hi) q)⟩,b1.mono (fun j _ hj q=>hK j q hj)⟩
 rcases n1 j q with g|g
 ·exact hK j hj g
 ·have:=h.kl j hj
  have:=g.1
  omega
theorem H1.step (V:DFace T) (h:H1 T w0 K w H d S) (hb:Below w.heap.size w w'):H1 T w0 (fun j=>K j \/ (w.heap.size<=j/\j<w'.heap.size)) w' H d S:=by
 obtain⟨G,h1,h2⟩:=h.ex
 have s:=hb.size
 refine⟨⟨G,h1.step V hb,fun j hj q=>?_⟩,fun j hj=>?_,fun j hj=>.inl (h.old j hj),below_via h.bl hb⟩
 ·rcases hj with g|g
  ·exact h2 j g q
  ·have:=h1.lt q
   have:=g.1
   omega
 ·rcases hj with g|g
  ·exact Nat.lt_of_lt_of_le (h.kl j g) s
  ·exact g.2
theorem H1.mono {K':Nat->Prop} (h:H1 T w0 K w H d S) (hk:∀ j,K' j->K j) (ho:∀ j,j<w0.heap.size->K' j):H1 T w0 K' w H d S:=by
 obtain⟨G,h1,h2⟩:=h.ex
 exact⟨⟨G,h1,fun j hj=>h2 j (hk j hj)⟩,fun j hj=>h.kl j (hk j hj),ho,h.bl⟩
theorem H1.en (h:H1 T w0 K w H d S):En w:=by
 obtain⟨G,h1,h2⟩:=h.ex
 exact h1.en
theorem H1.new (V:DFace T) (room:Int) (w0 w:World) (K:Nat->Prop) (en:En w) (h0:0<=room) (h1:room<=100000) (kl:∀ j,K j->j<w.heap.size) (old:∀ j,j<w0.heap.size->K j) (bl:Below w0.heap.size w0 w) :
  Calls Tryz.prog 7 #[.int .i64 room] w fun e w'=>∃ H,e=.returned (.tuple #[.pointer (some ⟨H,0,none⟩),.nilIface])/\H1 T w0 K w' H (dk0 room) []/\Below w.heap.size w w':=by
 refine (hallNew V room en h0 h1).mono ?_
 rintro e w' ⟨H,G,rfl,hl,lo,hb⟩
 exact⟨H,rfl,⟨⟨G,hl,fun j hj q=>by have:=kl j hj;have:=lo j q;omega⟩,fun j hj=>Nat.lt_of_lt_of_le (kl j hj) hb.size,old,below_via bl hb⟩,hb⟩
theorem H1.once (V:DFace T) {k:Nat} (c:Cl) (h:H1 T w0 K w H d S) (dp:Dp k d) (hk:k<=800) :
  Calls Tryz.prog 16 #[.pointer (some ⟨H,0,none⟩),clV c] w fun e w'=>∃ u,e=.returned (.tuple #[anV (onA d c) u,.int .i64 (onN d c),ev (onF d c)])/\w'.ownsRow w.heap.size 31 2 u (onA d c).l.length (pfV (onA d c).l)/\H1 T w0 K w' H (onD d c) S/\But (fun j=>¬ K j) w w':=by
 obtain⟨G,h1,h2⟩:=h.ex
 refine (hallOnce V c h1 dp.ok (Nat.le_trans dp.wl hk) (by have:=dp.ids;omega) dp.spz).mono ?_
 rintro e w' ⟨u,rfl,row,hp⟩
 exact⟨u,rfl,row,h.op h2 hp⟩
theorem H1.open (V:DFace T) {k:Nat} (who:ByteArray) (h:H1 T w0 K w H d S) (dp:Dp k d) (hk:k<=800) (hw:who.size<=maxLen) (hS:S.length<=1000) :
  Calls Tryz.prog 8 #[.pointer (some ⟨H,0,none⟩),.string who] w fun e w'=>e=.returned (ev (hoF d S who))/\H1 T w0 K w' H (hoD d S who) (hoS d S who)/\But (fun j=>¬ K j) w w':=by
 obtain⟨G,h1,h2⟩:=h.ex
 refine (hallOpen V h1 dp.ok (dp.sm (by omega)) who hw hS).mono ?_
 rintro e w' ⟨rfl,hp⟩
 exact⟨rfl,h.op h2 hp⟩
theorem H1.ask (V:DFace T) {k:Nat} (who:ByteArray) (c:Cl) (h:H1 T w0 K w H d S) (dp:Dp k d) (hk:k<=800) (hw:who.size<=maxLen) :
  Calls Tryz.prog 11 #[.pointer (some ⟨H,0,none⟩),.string who,clV c] w fun e w'=>∃ u,e=.returned (.tuple #[anV (haA d S who c) u,ev (haF d S who c)])/\w'.ownsRow w.heap.size 31 2 u (haA d S who c).l.length (pfV (haA d S who c).l)/\H1 T w0 (fun j=>K j \/ u.ownBlock=some j) w' H (haD d S who c) S/\But (fun j=>¬ K j) w w':=by
 obtain⟨G,h1,h2⟩:=h.ex
 refine (hallAsk V h1 dp.ok (dp.sm (by omega)) who hw c).mono ?_
 rintro e w' ⟨u,rfl,row,G',g1,g2,g3,g4⟩
 obtain⟨q1,q2⟩:=h.op h2 ⟨G',g1,g2,g3⟩
 have s:=g3.size
 refine⟨u,rfl,row,⟨⟨G',g1,fun j hj q=>?_⟩,fun j hj=>?_,fun j hj=>.inl (h.old j hj),q1.bl⟩,q2⟩
 ·rcases hj with g|g
  ·rcases g2 j q with z|z
   ·exact h2 j g z
   ·have:=h.kl j g
    have:=z.1
    omega
  ·exact g4 j g q
 ·rcases hj with g|g
  ·exact Nat.lt_of_lt_of_le (h.kl j g) s
  ·exact (row.lt j g).2
theorem H1.close (V:DFace T) {k:Nat} (who:ByteArray) (h:H1 T w0 K w H d S) (dp:Dp k d) (hk:k<=800) (hw:who.size<=maxLen) :
  Calls Tryz.prog 10 #[.pointer (some ⟨H,0,none⟩),.string who] w fun e w'=>e=.returned (.tuple #[.int .i64 (hcN d S who),ev (hcF d S who)])/\H1 T w0 K w' H (hcD d S who) (sDel S who)/\But (fun j=>¬ K j) w w':=by
 obtain⟨G,h1,h2⟩:=h.ex
 refine (hallClose V h1 dp.ok (dp.sm (by omega)) dp.spz who hw).mono ?_
 rintro e w' ⟨rfl,hp⟩
 exact⟨rfl,h.op h2 hp⟩
theorem H1.quit (V:DFace T) {k:Nat} (who:ByteArray) (h:H1 T w0 K w H d S) (dp:Dp k d) (hk:k<=800) (hw:who.size<=maxLen) :
  Calls Tryz.prog 9 #[.pointer (some ⟨H,0,none⟩),.string who] w fun e w'=>e=.returned (ev (hqF d S who))/\H1 T w0 K w' H (hqD d S who) (sDel S who)/\But (fun j=>¬ K j) w w':=by
 obtain⟨G,h1,h2⟩:=h.ex
 refine (hallQuit V h1 dp.ok (dp.sm (by omega)) who hw).mono ?_
 rintro e w' ⟨rfl,hp⟩
 exact⟨rfl,h.op h2 hp⟩
theorem H1.all (V:DFace T) {k:Nat} (h:H1 T w0 K w H d S) (dp:Dp k d) (hk:k<=800) :
  Calls Tryz.prog 15 #[.pointer (some ⟨H,0,none⟩)] w fun e w'=>∃ (q:Option Addr) (cq:Nat),e=.returned (.slice q (allP d).length cq)/\(allP d).length<=cq/\PrIn (fun j=>w.heap.size<=j) w' q (allP d)/\Below w.heap.size w w':=by
 obtain⟨G,h1,h2⟩:=h.ex
 exact hallAll V h1 dp.ok (dp.sm (by omega))
end
end Go.Proofs.YtmghmpclmphccaaGreatDoor.Pa
namespace Go.Proofs.YtmghmpclmphccaaGreatDoor.Pa
open Go.RowKit Go.Maps Go.WideShapes Go.ChangeMaps Vs
section
variable {T:Td} {w w':World} {G F:Nat->Prop} {H B M n:Nat} {D:DataW Value} {d:Dk} {S:Ses}
theorem hallFlush (V:DFace T) (h:Hl T w G H d S) (ok:OkD d) (sm:Sm d) :
  Calls Tryz.prog 21 #[.pointer (some ⟨H,0,none⟩)] w fun e w'=>e=.returned (ev (flF d))/\Hp T G H w w' (flD d) S:=by
 obtain⟨F,B,M,n,D,hx⟩:=h
 have c0:=hx.hh.c0
 have K:Calls Tryz.prog 47 #[.pointer (some ⟨B,0,none⟩)] w fun e w'=>e=.returned (ev (flF d))/\Dj T F w w' B (flD d):=(V.flush hx.ds.t ok sm hx.ds.lt).mono (fun e w' q=>⟨q.1,Dj.of hx.ds q.2.1 (fun j hj=>hj) q.2.2⟩)
 generalize ev (flF d)=vf at K ⊢
 generalize flD d=d2 at K ⊢
 go_enter Tryz.func21,Tryz.ntmps21
 go_wp2_with (go_at_call 47;refine K.mono ?_;clear K;rintro e w1 ⟨rfl,dj⟩)
 go_ret
 obtain⟨F2,q1,q2⟩:=dj.ex
 exact⟨rfl,hx.desk q1 q2 dj.bt⟩
theorem hallFail (V:DFace T) (h:Hl T w G H d S) (ok:OkD d) (sm:Sm d) (m:Int) (n0 : -9223372036854775808<=m) (n1:m<=9223372036854775807) :
  Calls Tryz.prog 22 #[.pointer (some ⟨H,0,none⟩),.int .i64 m] w fun e w'=>e=.returned (.tuple #[])/\Hp T G H w w' (fdD d m) S:=by
 obtain⟨F,B,M,n,D,hx⟩:=h
 have c0:=hx.hh.c0
 have K:Calls Tryz.prog 48 #[.pointer (some ⟨B,0,none⟩),.int .i64 m] w fun e w'=>e=.returned (.tuple #[])/\Dj T F w w' B (fdD d m):=(V.fail m n0 n1 hx.ds.t ok sm hx.ds.lt).mono (fun e w' q=>⟨q.1,Dj.of hx.ds q.2.1 (fun j hj=>hj) q.2.2⟩)
 generalize fdD d m=d2 at K ⊢
 go_enter Tryz.func22,Tryz.ntmps22
 go_wp2_with (go_at_call 48;refine K.mono ?_;clear K;rintro e w1 ⟨rfl,dj⟩)
 go_end0
 obtain⟨F2,q1,q2⟩:=dj.ex
 exact⟨rfl,hx.desk q1 q2 dj.bt⟩
theorem hallSafe (V:DFace T) (h:Hl T w G H d S) (ok:OkD d) (sm:Sm d) :
  Calls Tryz.prog 20 #[.pointer (some ⟨H,0,none⟩)] w fun e w'=>e=.returned (.int .i64 (sfN d))/\Below w.heap.size w w':=by
 obtain⟨F,B,M,n,D,hx⟩:=h
 have c0:=hx.hh.c0
 have K:=V.safe hx.ds.t ok sm
 go_enter Tryz.func20,Tryz.ntmps20
 go_wp2_with (go_at_call 46;refine K.mono ?_;clear K;rintro e w1 ⟨rfl,hb⟩)
 go_ret
 exact⟨rfl,hb⟩
theorem hallCrash (V:DFace T) (h:Hl T w G H d S) (ok:OkD d) (sm:Sm d) (m:Int) (n0 : -9223372036854775808<=m) (n1:m<=9223372036854775807) :
  Calls Tryz.prog 23 #[.pointer (some ⟨H,0,none⟩),.int .i64 m] w fun e w'=>e=.returned (.tuple #[])/\Hp T G H w w' (cdD d m) []:=by
 obtain⟨F,B,M,n,D,hx⟩:=h
 have c0:=hx.hh.c0
 have K:Calls Tryz.prog 49 #[.pointer (some ⟨B,0,none⟩),.int .i64 m] w fun e w'=>e=.returned (.tuple #[])/\Dj T F w w' B (cdD d m):=(V.crash m n0 n1 hx.ds.t ok sm hx.ds.lt).mono (fun e w' q=>⟨q.1,Dj.of hx.ds q.2.1 (fun j hj=>hj) q.2.2⟩)
 generalize cdD d m=d2 at K ⊢
 go_enter Tryz.func23,Tryz.ntmps23
 go_wp2_with (go_at_call 49;refine K.mono ?_;clear K;rintro e w1 ⟨rfl,dj⟩;obtain⟨F2,q1,q2⟩:=dj.ex;obtain⟨G2,⟨F3,B3,M3,n3,D3,hx2⟩,hn2,hb2⟩:=hx.desk q1 q2 dj.bt;have m1:=hx2.hh.c1;obtain⟨w5,hclr,own5,hg5,hs5⟩:=run_clearS 73 3 Tryz.underlying73 hx2.mp)
 go_end0
 exact⟨rfl,Hp.then hn2 hb2 (hx2.ses V (grown_butM hg5) own5 SesR.nil List.nodup_nil)⟩
end
end Go.Proofs.YtmghmpclmphccaaGreatDoor.Pa
namespace Go.Proofs.YtmghmpclmphccaaGreatDoor.Pa
open Go.RowKit Vs
theorem txt_data (b:ByteArray):txt b.data.toList=b:=by
 cases b
 simp[txt]
theorem isA_of {a:Int} (h:Bur.fault a 32=0):Bur.isA a=true:=by
 obtain⟨_,_,h1,h2,_⟩:=Bur.fault_ok h
 unfold Bur.isA
 simp only [Bool.and_eq_true,decide_eq_true_eq]
 exact⟨h1,h2⟩
theorem fault_32 {a:Int} (h0:0<=a) (h1:a<=4294967295):Bur.fault a 32=0:=by
 unfold Bur.fault
 have hA:Bur.isA a=true:=by unfold Bur.isA;simp only [Bool.and_eq_true,decide_eq_true_eq];exact⟨h0,h1⟩
 have h32:Bur.sz 32=1:=by decide
 rw[if_neg (by rw[hA];simp),h32,if_pos (by omega)]
theorem en_net {n:ByteArray} (h:Bur.isN n.data.toList=true):enB (kN n)=some (1,n.data.toList,(0,0)):=en_kN h
theorem en_pfx {n:ByteArray} {p:Bur.Sp} (h:Bur.isN n.data.toList=true) (hf:Bur.fault p.1 p.2=0):enB (kP n p)=some (2,n.data.toList,p):=by
 unfold enB kP
 rw[txt_list]
 exact Bur.en_pfx h hf
theorem en_adr {n:ByteArray} {a:Int} (h:Bur.isN n.data.toList=true) (hf:Bur.fault a 32=0):enB (kA n a)=some (3,n.data.toList,(a,32)):=by
 unfold enB kA
 rw[txt_list]
 exact Bur.en_adr h hf
def vPut (V:ByteArray->Option ByteArray) (k0 v:ByteArray):ByteArray->Option ByteArray:=fun k=>if k=k0 then some v else V k
def vDel (V:ByteArray->Option ByteArray) (k0:ByteArray):ByteArray->Option ByteArray:=fun k=>if k=k0 then none else V k
theorem put_some {V:ByteArray->Option ByteArray} {k0 v k:ByteArray} (h:(V k).isSome=true):(vPut V k0 v k).isSome=true:=by
 unfold vPut
 split
 ·rfl
 ·exact h
theorem ino_put {V:ByteArray->Option ByteArray} {k0 v:ByteArray} {e:Bur.En} (h:Ino V) (he:enB k0=some e) (hv:Bur.isN v.data.toList=true) (h1:e.1≠1->(V (txt (Bur.netK e.2.1))).isSome=true) (h3:∀ a,e=(3,e.2.1,(a,32)) -> ∃ k' v' q,V k'=some v'/\enB k'=some (2,e.2.1,q)/\Bur.hs q a=true):Ino (vPut V k0 v):=by
 have more:∀ {n a},(∃ k' v' q,V k'=some v'/\enB k'=some (2,n,q)/\Bur.hs q a=true) -> ∃ k' v' q,vPut V k0 v k'=some v'/\enB k'=some (2,n,q)/\Bur.hs q a=true:=by
  rintro n a ⟨k',v',q,z1,z2,z3⟩
  obtain⟨x,hx⟩:=Option.isSome_iff_exists.1 (put_some (V:=V) (k0:=k0) (v:=v) (k:=k') (by rw[z1];rfl))
  exact⟨k',x,q,hx,z2,z3⟩
 refine⟨fun k x hx=>?_,fun k x e' hx he' hne=>?_,fun k x n a hx he'=>?_⟩
 ·unfold vPut at hx
  split at hx
  ·rename_i q
   cases hx
   rw[q,he]
   exact⟨rfl,hv⟩
  ·exact h.key k x hx
 ·unfold vPut at hx
  split at hx
  ·rename_i q
   rw[q,he] at he'
   cases he'
   exact put_some (h1 hne)
  ·exact put_some (h.net k x e' hx he' hne)
 ·unfold vPut at hx
  split at hx
  ·rename_i q
   rw[q,he] at he'
   have hee:e=(3,n,(a,32)):=Option.some.inj he'
   have:=h3 a (by rw[hee])
   rw[hee] at this
   exact more this
  ·exact more (h.has k x n a hx he')
theorem ino_del {V:ByteArray->Option ByteArray} {k0:ByteArray} {e:Bur.En} (h:Ino V) (he:enB k0=some e) (h1:e.1≠1) (h2:∀ q,e=(2,e.2.1,q) -> ∀ k v a,V k=some v->enB k=some (3,e.2.1,(a,32))->Bur.hs q a=true -> ∃ k' v' q',k'≠k0/\V k'=some v'/\enB k'=some (2,e.2.1,q')/\Bur.hs q' a=true):Ino (vDel V k0):=by
 have old:∀ {k x},vDel V k0 k=some x->V k=some x/\k≠k0:=fun {k x} hx=>by
  unfold vDel at hx
  split at hx
  ·cases hx
  ·rename_i q;exact⟨hx,q⟩
 have new:∀ {k x},V k=some x->k≠k0->vDel V k0 k=some x:=fun {k x} hx hk=>by
  unfold vDel
  rw[if_neg hk]
  exact hx
 refine⟨fun k x hx=>h.key k x (old hx).1,fun k x e' hx he' hne=>?_,fun k x n a hx he'=>?_⟩
 ·obtain⟨y,hy⟩:=Option.isSome_iff_exists.1 (h.net k x e' (old hx).1 he' hne)
  rw[new hy (fun q=>by
   have:=en_kN (en_name he')
   rw[q,he] at this
   exact h1 (congrArg Prod.fst (Option.some.inj this)))]
  rfl
 ·obtain⟨k',v',q,z1,z2,z3⟩:=h.has k x n a (old hx).1 he'
  by_cases hk:k'=k0
  ·rw[hk,he] at z2
   have hee:e=(2,n,q):=Option.some.inj z2
   have hn:e.2.1=n:=by rw[hee]
   obtain⟨k2,v2,q2,y0,y1,y2,y3⟩:=h2 q (by rw[hee]) k x a (old hx).1 (by rw[hn];exact he') z3
   exact⟨k2,v2,q2,new y1 y0,by rw[<- hn];exact y2,y3⟩
  ·exact⟨k',v',q,new z1 hk,z2,z3⟩
structure Tin (vs:List Ver) (o:Ox):Prop where
 ris:risC o.own
 ino:Ino (seeO vs o.sees o.own)
 cov:Cov o
theorem Cov.mono {o o':Ox} (h:Cov o) (ho:o'.own=o.own) (hk:∀ k∈o.keys,k∈o'.keys) (hs:∀ s∈o.spans,s∈o'.spans):Cov o':=
 ⟨fun c hc=>h.ent c (ho ▸ hc),fun c hc=>h.nd c (ho ▸ hc),fun c hc e he h1 hg=>hk _ (h.pp c (ho ▸ hc) e he h1 hg),fun c hc n q he hg=>(h.pd c (ho ▸ hc) n q he hg).imp (hs _) (hs _),fun c hc n q he hg=>hs _ (h.ap c (ho ▸ hc) n q he hg)⟩
theorem Tin.askK {vs:List Ver} {o:Ox} (h:Tin vs o) (k:ByteArray):Tin vs (askK o k):=⟨h.ris,h.ino,Cov.mono h.cov rfl (fun x hx=>by show x∈o.keys ++ [k];simp[hx]) (fun s hs=>hs)⟩
theorem Tin.askR {vs:List Ver} {o:Ox} (h:Tin vs o) (lo hi:ByteArray):Tin vs (askR o lo hi):=⟨h.ris,h.ino,Cov.mono h.cov rfl (fun x hx=>hx) (fun s hs=>by show s∈o.spans ++ [(lo,hi)];simp[hs])⟩
theorem Tin.ins {vs:List Ver} {o:Ox} (h:Tin vs o) (c:Chg) (hi:Ino (seeO vs o.sees (insC o.own c))) (h1:(enB c.k).isSome=true) (h2:∀ n q,enB c.k=some (1,n,q)->c.g=false) (h3:∀ e,enB c.k=some e->e.1≠1->c.g=false->txt (Bur.netK e.2.1)∈o.keys)
  (h4:∀ n q,enB c.k=some (2,n,q)->c.g=true->(loK 112 (txt n),heK 112 (txt n))∈o.spans/\(loK 97 (txt n),heK 97 (txt n))∈o.spans) (h5:∀ n q,enB c.k=some (3,n,q)->c.g=false->(loK 112 (txt n),heK 112 (txt n))∈o.spans):Tin vs { o with own:=insC o.own c }:=by
 have mem:∀ {x},x∈insC o.own c->x=c \/ x∈o.own:=fun {x} hx=>((mem_insC h.ris).1 hx).imp id And.left
 refine⟨ris_insC h.ris,hi,⟨fun x hx=>?_,fun x hx=>?_,fun x hx=>?_,fun x hx=>?_,fun x hx=>?_⟩⟩
 ·rcases mem hx with rfl|g
  ·exact h1
  ·exact h.cov.ent x g
 ·rcases mem hx with rfl|g
  ·exact h2
  ·exact h.cov.nd x g
 ·rcases mem hx with rfl|g
  ·exact h3
  ·exact h.cov.pp x g
 ·rcases mem hx with rfl|g
  ·exact h4
  ·exact h.cov.pd x g
 ·rcases mem hx with rfl|g
  ·exact h5
  ·exact h.cov.ap x g
theorem see_put {vs:List Ver} {o:Ox} (hr:risC o.own) (k v:ByteArray):seeO vs o.sees (insC o.own ⟨k,v,false⟩)=vPut (seeO vs o.sees o.own) k v:=by
 funext x
 rw[see_ins hr]
 rfl
theorem see_del {vs:List Ver} {o:Ox} (hr:risC o.own) (k:ByteArray):seeO vs o.sees (insC o.own ⟨k,ByteArray.empty,true⟩)=vDel (seeO vs o.sees o.own) k:=by
 funext x
 rw[see_ins hr]
 rfl
theorem in_asks {P:Ox->Prop} {k:ByteArray} {K:ByteArray->Bool->Pg} {vs:List Ver} {o:Ox} (hk:shF k ByteArray.empty=0) (h0:P o) (hn:seeO vs o.sees o.own k=none->P (loR (K ByteArray.empty false) vs (askK o k)).2.2) (hy:∀ v,seeO vs o.sees o.own k=some v->P (loR (K v true) vs (askK o k)).2.2):P (loR (asks k K) vs o).2.2:=by
 by_cases ha:o.asked<100
 ·rw[lo_asks hk ha]
  cases e:seeO vs o.sees o.own k with
  | none=>exact hn e
  | some v=>exact hy v e
 ·have hn':100<=o.asked:=by omega
  have e:loR (asks k K) vs o=(an0,3,o):=by
   show loR ((fun v f=>if f=4 then K ByteArray.empty false else if f=0 then K v true else err f) (lgS vs o k) (lgF vs o k)) vs (lgO o k)=_
   unfold lgS lgF lgO
   simp only [hk,if_true,hn']
   rfl
  rw[e]
  exact h0
theorem in_allL {P:Ox->Prop} {n:ByteArray} {K:List Lot->Pg} {vs:List Ver} {o:Ox} (h0:P o) (h:P (loR (K (lots (rngO vs o.sees o.own (loK 112 n) (heK 112 n)))) vs (askR o (loK 112 n) (heK 112 n))).2.2):P (loR (allL n K) vs o).2.2:=by
 by_cases ha:o.asked<100
 ·rw[lo_allL ha];exact h
 ·have hn':100<=o.asked:=by omega
  have e:loR (allL n K) vs o=(an0,3,o):=by
   show loR ((fun l f=>if f=0 then K (lots l) else err f) (lrS vs o (loK 112 n) (heK 112 n)) (lrF o)) vs (lrO o (loK 112 n) (heK 112 n))=_
   unfold lrS lrF lrO
   simp only [hn',if_true]
   rfl
  rw[e]
  exact h0
theorem in_allA {P:Ox->Prop} {n:ByteArray} {K:List Int->Pg} {vs:List Ver} {o:Ox} (h0:P o) (h:P (loR (K (plcd (rngO vs o.sees o.own (loK 97 n) (heK 97 n)))) vs (askR o (loK 97 n) (heK 97 n))).2.2):P (loR (allA n K) vs o).2.2:=by
 by_cases ha:o.asked<100
 ·rw[lo_allA ha];exact h
 ·have hn':100<=o.asked:=by omega
  have e:loR (allA n K) vs o=(an0,3,o):=by
   show loR ((fun l f=>if f=0 then K (plcd l) else err f) (lrS vs o (loK 97 n) (heK 97 n)) (lrF o)) vs (lrO o (loK 97 n) (heK 97 n))=_
   unfold lrS lrF lrO
   simp only [hn',if_true]
   rfl
  rw[e]
  exact h0
theorem in_err {P:Ox->Prop} {f:Int} {vs:List Ver} {o:Ox} (h0:P o):P (loR (err f) vs o).2.2:=h0
theorem in_puts {P:Ox->Prop} {k v:ByteArray} {a:An} {vs:List Ver} {o:Ox} (h0:P o) (h:P { o with own:=insC o.own ⟨k,v,false⟩ }):P (loR (puts k v a) vs o).2.2:=by
 have e:(loR (puts k v a) vs o).2.2=lcO o ⟨k,v,false⟩:=by
  show (loR ((fun f=>if f=0 then Pg.ret a 0 else err f) (lcF o ⟨k,v,false⟩)) vs (lcO o ⟨k,v,false⟩)).2.2=_
  simp only
  split <;> rfl
 rw[e]
 unfold lcO
 split
 ·split
  ·exact h0
  ·exact h
 ·exact h0
theorem in_drops {P:Ox->Prop} {k:ByteArray} {vs:List Ver} {o:Ox} (h0:P o) (h:P { o with own:=insC o.own ⟨k,ByteArray.empty,true⟩ }):P (loR (drops k) vs o).2.2:=by
 show P (lcO o ⟨k,ByteArray.empty,true⟩)
 unfold lcO
 split
 ·split
  ·exact h0
  ·exact h
 ·exact h0
end Go.Proofs.YtmghmpclmphccaaGreatDoor.Pa
namespace Go.Proofs.YtmghmpclmphccaaGreatDoor.Pa
open Go.RowKit Vs
theorem cl_nm {c:Cl} (h:clF c=0):Bur.isN c.nm.data.toList=true:=by
 unfold clF at h
 split at h
 ·cases h
 ·split at h
  ·cases h
  ·rename_i q
   simpa using q
theorem cl_ow {c:Cl} (h:clF c=0) (hw:c.what=1 \/ c.what=2 \/ c.what=4 \/ c.what=6 \/ c.what=7):Bur.isN c.ow.data.toList=true:=by
 unfold clF at h
 split at h
 ·cases h
 ·split at h
  ·cases h
  ·split at h
   ·cases h
   ·rename_i q
    cases e:Bur.isN c.ow.data.toList
    ·exact absurd ⟨hw,e⟩ q
    ·rfl
theorem cl_p {c:Cl} (h:clF c=0) (hw:c.what=2 \/ c.what=3 \/ c.what=6 \/ c.what=7):Bur.fault c.p.1 c.p.2=0:=by
 unfold clF at h
 split at h
 ·cases h
 ·split at h
  ·cases h
  ·split at h
   ·cases h
   ·first
     | exact h
     | (rw[if_pos hw] at h;exact h)
theorem cl_a {c:Cl} (h:clF c=0) (hw:c.what=4 \/ c.what=5 \/ c.what=9):Bur.fault c.ad 32=0:=by
 unfold clF at h
 split at h
 ·cases h
 ·split at h
  ·cases h
  ·split at h
   ·cases h
   ·first
     | exact h
     | (rw[if_pos hw] at h;exact h)
     | (rw[if_neg (by omega)] at h;exact h)
     | (rw[if_neg (by omega),if_pos hw] at h;exact h)
theorem lot_see {vs:List Ver} {top:Int} (hT:OkT vs top) {o:Ox} (hr:risC o.own) {n:ByteArray} (hn:Bur.isN n.data.toList=true) {x:Lot}:x∈lots (rngO vs o.sees o.own (loK 112 n) (heK 112 n)) ↔ ∃ k,seeO vs o.sees o.own k=some x.2/\enB k=some (2,n.data.toList,x.1):=by
 obtain⟨_,hm⟩:=rngO_is hT hr o.sees (loK 112 n) (heK 112 n)
 unfold lots
 rw[List.mem_filterMap]
 constructor
 ·rintro ⟨p,hp,hx⟩
  obtain⟨h1,h2⟩:=(hm p).1 hp
  cases e:Bur.pkR p.1.data.toList with
  | none=>rw[e] at hx;cases hx
  | some s=>
   rw[e] at hx
   have hx':(s,p.2)=x:=Option.some.inj hx
   subst hx'
   exact⟨p.1,h2,(rng_pfx hn).1 ⟨h1,e⟩⟩
 ·rintro ⟨k,h1,h2⟩
  obtain⟨g1,g2⟩:=(rng_pfx (n:=n) (k:=k) (q:=x.1) hn).2 h2
  refine⟨(k,x.2),(hm _).2 ⟨g1,h1⟩,?_⟩
  show (Bur.pkR k.data.toList).map (fun s=>(s,x.2))=some x
  rw[g2]
  rfl
theorem adr_see {vs:List Ver} {top:Int} (hT:OkT vs top) {o:Ox} (hr:risC o.own) {n:ByteArray} (hn:Bur.isN n.data.toList=true) {k v:ByteArray} {a:Int} (h1:seeO vs o.sees o.own k=some v) (h2:enB k=some (3,n.data.toList,(a,32))):a∈plcd (rngO vs o.sees o.own (loK 97 n) (heK 97 n)):=by
 obtain⟨_,hm⟩:=rngO_is hT hr o.sees (loK 97 n) (heK 97 n)
 obtain⟨g1,g2⟩:=(rng_adr (n:=n) (k:=k) (a:=a) hn).2 h2
 unfold plcd
 rw[List.mem_filterMap]
 exact⟨(k,v),(hm _).2 ⟨g1,h1⟩,g2⟩
theorem hav_has {vs:List Ver} {top:Int} (hT:OkT vs top) {o:Ox} (hr:risC o.own) {n:ByteArray} (hn:Bur.isN n.data.toList=true) {a:Int} (ha:Bur.isA a=true) {x:Lot} (hx:x∈hav (lots (rngO vs o.sees o.own (loK 112 n) (heK 112 n))) a):∃ k v q,seeO vs o.sees o.own k=some v/\enB k=some (2,n.data.toList,q)/\Bur.hs q a=true/\x=(q,v):=by
 unfold hav at hx
 obtain⟨h1,h2⟩:=List.mem_filter.1 hx
 obtain⟨k,g1,g2⟩:=(lot_see hT hr hn).1 h1
 have hf:Bur.fault x.1.1 x.1.2=0:=Bur.pkR_fault (Bur.en_two g2).1
 rw[Bur.wit_hs ha hf] at h2
 exact⟨k,x.2,x.1,g1,g2,h2,rfl⟩
theorem one_key {k k':ByteArray} {n:List UInt8} {q:Bur.Sp} (h:enB k=some (2,n,q)) (h':enB k'=some (2,n,q)):bl k k'=false:=by
 cases e:bl k k'
 ·rfl
 ·have hb:Op.bytesLess k.data.toList k'.data.toList=true:=by
   have:=e
   unfold bl at this
   rw[Lib.toList_data,Lib.toList_data] at this
   exact this
  have:=Bur.key_rise h h' hb
  unfold Bur.ahd at this
  simp at this
theorem hav_one {l:List Pr} {n:List UInt8} {a:Int} {p:Bur.Sp} (hr:rises l) (hk:∀ x∈l,∀ q,Bur.pkR x.1.data.toList=some q->enB x.1=some (2,n,q)) (hall:∀ x∈hav (lots l) a,x.1=p):(hav (lots l) a).length<2:=by
 induction l with
 | nil=>simp[hav,lots]
 | cons x r ih=>
  obtain⟨r1,r2⟩:=List.pairwise_cons.1 hr
  have ihr:=fun h=>ih r2 (fun y hy=>hk y (by simp[hy])) h
  cases e:Bur.pkR x.1.data.toList with
  | none=>
   have el:lots (x :: r)=lots r:=by unfold lots;rw[List.filterMap_cons,e];rfl
   rw[el] at hall ⊢
   exact ihr hall
  | some q=>
   have el:lots (x :: r)=(q,x.2) :: lots r:=by unfold lots;rw[List.filterMap_cons,e];rfl
   rw[el] at hall ⊢
   by_cases hw:Bur.witB a 32 q.1 q.2=true
   ·have eh:hav ((q,x.2) :: lots r) a=(q,x.2) :: hav (lots r) a:=by unfold hav;rw[List.filter_cons,if_pos hw]
    rw[eh] at hall ⊢
    have hq:q=p:=hall (q,x.2) (by simp)
    cases hz:hav (lots r) a with
    | nil=>simp
    | cons y t=>
     have hy:y∈hav (lots r) a:=by rw[hz];simp
     have hyp:=hall y (by rw[hz];simp)
     have hyl:y∈lots r:=(List.mem_filter.1 hy).1
     unfold lots at hyl
     obtain⟨z,z1,z2⟩:=List.mem_filterMap.1 hyl
     cases ez:Bur.pkR z.1.data.toList with
     | none=>rw[ez] at z2;cases z2
     | some s=>
      rw[ez] at z2
      have hs:(s,z.2)=y:=Option.some.inj z2
      have hsp:s=p:=by rw[<- hyp,<- hs]
      have k1:=hk x (by simp) q e
      have k2:=hk z (by simp[z1]) s ez
      rw[hq] at k1
      rw[hsp] at k2
      have:=r1 z z1
      rw[one_key k1 k2] at this
      cases this
   ·have eh:hav ((q,x.2) :: lots r) a=hav (lots r) a:=by unfold hav;rw[List.filter_cons,if_neg hw]
    rw[eh] at hall ⊢
    exact ihr hall
section
variable {vs:List Ver} {top:Int} {o:Ox} {c:Cl}
theorem tin_put_p (t:Tin vs o) {n v:ByteArray} {p:Bur.Sp} (hn:Bur.isN n.data.toList=true) (hf:Bur.fault p.1 p.2=0) (hv:Bur.isN v.data.toList=true) (h1:(seeO vs o.sees o.own (kN n)).isSome=true) (hk:kN n∈o.keys):Tin vs { o with own:=insC o.own ⟨kP n p,v,false⟩ }:=by
 have e:=en_pfx hn hf
 refine t.ins _ ?_ (Option.isSome_iff_exists.2 ⟨_,e⟩) (fun m q h=>rfl) (fun e' h _ _=>by rw[e] at h;cases h;exact hk) (fun m q h g=>by cases g) (fun m q h=>by rw[e] at h;cases h)
 rw[see_put t.ris]
 exact ino_put t.ino e hv (fun _=>h1) (fun a h=>by cases h)
theorem tin_put_a (t:Tin vs o) {n v:ByteArray} {a:Int} (hn:Bur.isN n.data.toList=true) (hf:Bur.fault a 32=0) (hv:Bur.isN v.data.toList=true) (h1:(seeO vs o.sees o.own (kN n)).isSome=true) (hk:kN n∈o.keys) (hs:(loK 112 n,heK 112 n)∈o.spans) (hh:∃ k' v' q,seeO vs o.sees o.own k'=some v'/\enB k'=some (2,n.data.toList,q)/\Bur.hs q a=true):Tin vs { o with own:=insC o.own ⟨kA n a,v,false⟩ }:=by
 have e:=en_adr hn hf
 refine t.ins _ ?_ (Option.isSome_iff_exists.2 ⟨_,e⟩) (fun m q h=>rfl) (fun e' h _ _=>by rw[e] at h;cases h;exact hk) (fun m q h=>by rw[e] at h;cases h) (fun m q h _=>by rw[e] at h;cases h;rw[txt_data];exact hs)
 rw[see_put t.ris]
 exact ino_put t.ino e hv (fun _=>h1) (fun b h=>by
  have:a=b:=congrArg (fun x:Bur.En=>x.2.2.1) h
  subst this
  exact hh)
theorem tin_del_a (t:Tin vs o) {n:ByteArray} {a:Int} (hn:Bur.isN n.data.toList=true) (hf:Bur.fault a 32=0):Tin vs { o with own:=insC o.own ⟨kA n a,ByteArray.empty,true⟩ }:=by
 have e:=en_adr hn hf
 refine t.ins _ ?_ (Option.isSome_iff_exists.2 ⟨_,e⟩) (fun m q h=>by rw[e] at h;cases h) (fun e' h _ g=>by cases g) (fun m q h=>by rw[e] at h;cases h) (fun m q h g=>by cases g)
 rw[see_del t.ris]
 exact ino_del t.ino e (show (3:Int)≠1 by decide) (fun q h=>by cases h)
theorem tin_net (t:Tin vs o) {n v:ByteArray} (hn:Bur.isN n.data.toList=true) (hv:Bur.isN v.data.toList=true):Tin vs { o with own:=insC o.own ⟨kN n,v,false⟩ }:=by
 have e:=en_net hn
 refine t.ins _ ?_ (Option.isSome_iff_exists.2 ⟨_,e⟩) (fun m q h=>rfl) (fun e' h h1 _=>by rw[e] at h;cases h;exact absurd rfl h1) (fun m q h=>by rw[e] at h;cases h) (fun m q h=>by rw[e] at h;cases h)
 rw[see_put t.ris]
 exact ino_put t.ino e hv (fun h=>absurd rfl h) (fun a h=>by cases h)
theorem tin_del_p (hT:OkT vs top) (t:Tin vs o) {n:ByteArray} {p:Bur.Sp} (hn:Bur.isN n.data.toList=true) (hf:Bur.fault p.1 p.2=0) (s1:(loK 112 n,heK 112 n)∈o.spans) (s2:(loK 97 n,heK 97 n)∈o.spans)
  (htk:tkF p (lots (rngO vs o.sees o.own (loK 112 n) (heK 112 n))) (plcd (rngO vs o.sees o.own (loK 97 n) (heK 97 n)))=false):Tin vs { o with own:=insC o.own ⟨kP n p,ByteArray.empty,true⟩ }:=by
 have e:=en_pfx hn hf
 refine t.ins _ ?_ (Option.isSome_iff_exists.2 ⟨_,e⟩) (fun m q h=>by rw[e] at h;cases h) (fun e' h _ g=>by cases g) (fun m q h _=>by rw[e] at h;cases h;rw[txt_data];exact⟨s1,s2⟩) (fun m q h=>by rw[e] at h;cases h)
 rw[see_del t.ris]
 refine ino_del t.ino e (show (2:Int)≠1 by decide) (fun q hq k v a h1 h2 h3=>?_)
 have hqp:p=q:=congrArg (fun x:Bur.En=>x.2.2) hq
 subst hqp
 have hA:Bur.isA a=true:=by
  obtain⟨b,e1,_,e3⟩:=Bur.en_three h2
  have:a=b:=congrArg Prod.fst e3
  rw[this]
  exact Bur.raK_isA e1
 have hu:=adr_see hT t.ris hn h1 h2
 unfold tkF at htk
 rw[Bool.or_eq_false_iff,List.any_eq_false] at htk
 have hlen:=htk.2 a (List.mem_filter.2 ⟨hu,by rw[Bur.wit_hs hA hf];exact h3⟩)
 have hlen2:2<=(hav (lots (rngO vs o.sees o.own (loK 112 n) (heK 112 n))) a).length:=by
  have:¬ (hav (lots (rngO vs o.sees o.own (loK 112 n) (heK 112 n))) a).length<2:=by simpa using hlen
  omega
 apply Classical.byContradiction
 intro hno
 have hall:∀ x∈hav (lots (rngO vs o.sees o.own (loK 112 n) (heK 112 n))) a,x.1=p:=fun x hx=>by
  obtain⟨k',v',q',z1,z2,z3,z4⟩:=hav_has hT t.ris hn hA hx
  apply Classical.byContradiction
  intro hne
  refine hno ⟨k',v',q',fun g=>?_,z1,z2,z3⟩
  rw[g,e] at z2
  have:p=q':=congrArg (fun x:Bur.En=>x.2.2) (Option.some.inj z2)
  exact hne (by rw[z4,this])
 obtain⟨hrs,hmem⟩:=rngO_is hT t.ris o.sees (loK 112 n) (heK 112 n)
 exact absurd (hav_one hrs (fun x hx q hq=>(rng_pfx (n:=n) (k:=x.1) (q:=q) hn).1 ⟨((hmem x).1 hx).1,hq⟩) hall) (by omega)
end
end Go.Proofs.YtmghmpclmphccaaGreatDoor.Pa
namespace Bur
theorem fs_ok {p:Sp} {l:List Sp} {n:Int} (h:fsF p l n=0):fault (fsS p l n).1 (fsS p l n).2=0:=by
 have hs:fsS p l n=((fsp p l n).getD 0,n):=if_pos h
 unfold fsF at h
 split at h
 ·rename_i e
  obtain⟨h0,n0,n1⟩:=gfF_ok e
  rw[hs]
  cases hx:fsp p l n with
  | none=>rw[hx] at h;cases h
  | some a=>exact ((frs_mem (frF_ok h0).1 n0 n1 _).1 (fsp_some (frF_ok h0).1 n0 n1 hx).1).1
 ·contradiction
theorem nx_ok {p:Sp} {u:List Int} (h:nxF p u=0):fault (nxS p u) 32=0/\hs p (nxS p u)=true:=by
 have h2:=nxS_in h
 refine⟨Go.Proofs.YtmghmpclmphccaaGreatDoor.Pa.fault_32 h2.1 h2.2,?_⟩
 unfold nxF at h
 split at h
 ·rename_i e
  obtain⟨hp,_,_⟩:=usF_ok e
  rw[nxS,if_pos e]
  cases hx:nxt p u with
  | none=>rw[hx] at h;simp at h
  | some a=>
   obtain⟨a1,a2,_⟩:=nxt_some hp hx
   show (decide (p.1<=a)&&decide (a<=p.1+sz p.2 - 1))=true
   unfold usa at a1 a2
   rw[Bool.and_eq_true,decide_eq_true_eq,decide_eq_true_eq]
   split at a1
   ·rename_i q
    rw[if_pos q] at a2
    exact⟨a1,a2⟩
   ·rename_i q
    rw[if_neg q] at a2
    have a1':p.1+1<=a:=a1
    have a2':a<=p.1+sz p.2 - 2:=a2
    exact⟨by omega,by omega⟩
 ·contradiction
end Bur
namespace Go.Proofs.YtmghmpclmphccaaGreatDoor.Pa
open Go.RowKit Vs
theorem body_6 {c:Cl} (h:c.what=6):pBody c true=pNextP c:=by simp[pBody,h]
theorem body_7 {c:Cl} (h:c.what=7):pBody c true=pNextA c:=by simp[pBody,h]
theorem body_8 {c:Cl} (h:c.what=8):pBody c true=pList c:=by simp[pBody,h]
theorem tin_do {vs:List Ver} {top:Int} (hT:OkT vs top) {o:Ox} (t:Tin vs o) (c:Cl):Tin vs (loR (doP c) vs o).2.2:=by
 by_cases hc:clF c=0
 ·unfold doP
  rw[if_pos hc,pWork_is]
  have hn:=cl_nm hc
  obtain⟨w1,w9,_⟩:=clF_in hc
  have t1:=t.askK (kN c.nm)
  have hk:kN c.nm∈(askK o (kN c.nm)).keys:=by show kN c.nm∈o.keys ++ [kN c.nm];simp
  refine in_asks (P:=Tin vs) (sh_nm hc) t (fun _=>?_) (fun v hv=>?_)
  ·by_cases h1:c.what=1
   ·rw[show pBody c false=puts (kN c.nm) c.ow an0 by simp[pBody,h1,pNet]]
    exact in_puts (P:=Tin vs) t1 (tin_net t1 hn (cl_ow hc (.inl h1)))
   ·rw[body_no h1]
    exact in_err (P:=Tin vs) t1
  ·have hN:(seeO vs (askK o (kN c.nm)).sees (askK o (kN c.nm)).own (kN c.nm)).isSome=true:=by
    have:seeO vs (askK o (kN c.nm)).sees (askK o (kN c.nm)).own (kN c.nm)=some v:=hv
    rw[this];rfl
   generalize askK o (kN c.nm)=o1 at t1 hk hN ⊢
   by_cases h1:c.what=1
   ·rw[show pBody c true=err 6 by simp[pBody,h1,pNet]]
    exact in_err (P:=Tin vs) t1
   by_cases h2:c.what=2
   ·rw[body_2 h2]
    unfold pAdd
    refine in_asks (P:=Tin vs) (sh_pk hc _ (by decide)) t1 (fun _=>?_) (fun v _=>?_)
    ·rw[if_neg (by decide)]
     exact in_puts (P:=Tin vs) (t1.askK _) (tin_put_p (t1.askK _) hn (cl_p hc (.inl h2)) (cl_ow hc (.inr (.inl h2))) hN (by show kN c.nm∈o1.keys++_;simp[hk]))
    ·rw[if_pos rfl]
     exact in_err (P:=Tin vs) (t1.askK _)
   by_cases h3:c.what=3
   ·rw[body_3 h3]
    unfold pTake
    refine in_asks (P:=Tin vs) (sh_pk hc _ (by decide)) t1 (fun _=>?_) (fun v _=>?_)
    ·rw[if_neg (by decide)]
     exact in_err (P:=Tin vs) (t1.askK _)
    ·rw[if_pos rfl]
     have t2:=t1.askK (kP c.nm c.p)
     generalize askK o1 (kP c.nm c.p)=o2 at t2 ⊢
     refine in_allL (P:=Tin vs) t2 (in_allA (P:=Tin vs) (t2.askR _ _) ?_)
     split
     ·exact in_err (P:=Tin vs) ((t2.askR _ _).askR _ _)
     ·rename_i q
      refine in_drops (P:=Tin vs) ((t2.askR _ _).askR _ _) (tin_del_p hT ((t2.askR _ _).askR _ _) hn (cl_p hc (.inr (.inl h3))) ?_ ?_ ?_)
      ·show _∈(o2.spans ++ [(loK 112 c.nm,heK 112 c.nm)]) ++ [(loK 97 c.nm,heK 97 c.nm)];simp
      ·show _∈(o2.spans ++ [(loK 112 c.nm,heK 112 c.nm)]) ++ [(loK 97 c.nm,heK 97 c.nm)];simp
      ·exact Bool.eq_false_iff.2 q
   by_cases h4:c.what=4
   ·rw[body_4 h4]
    unfold pPlace
    have hf:=cl_a hc (.inl h4)
    refine in_allL (P:=Tin vs) t1 ?_
    have t2:=t1.askR (loK 112 c.nm) (heK 112 c.nm)
    refine in_asks (P:=Tin vs) (sh_ak hc _ (by decide)) t2 (fun _=>?_) (fun v _=>?_)
    ·split
     ·exact in_err (P:=Tin vs) (t2.askK _)
     ·rename_i q
      rw[if_neg (by decide)]
      refine in_puts (P:=Tin vs) (t2.askK _) (tin_put_a (t2.askK _) hn hf (cl_ow hc (.inr (.inr (.inl h4)))) hN (by show kN c.nm∈o1.keys++_;simp[hk]) (by show _∈o1.spans ++ [(loK 112 c.nm,heK 112 c.nm)];simp) ?_)
      obtain⟨x,hx⟩:=List.exists_mem_of_ne_nil _ q
      obtain⟨k',v',q',z1,z2,z3,_⟩:=hav_has hT t1.ris hn (isA_of hf) hx
      exact⟨k',v',q',z1,z2,z3⟩
    ·split
     ·exact in_err (P:=Tin vs) (t2.askK _)
     ·rw[if_pos rfl]
      exact in_err (P:=Tin vs) (t2.askK _)
   by_cases h5:c.what=5
   ·rw[body_5 h5]
    unfold pLeave
    refine in_asks (P:=Tin vs) (sh_ak hc _ (by decide)) t1 (fun _=>?_) (fun v _=>?_)
    ·rw[if_neg (by decide)]
     exact in_err (P:=Tin vs) (t1.askK _)
    ·rw[if_pos rfl]
     exact in_drops (P:=Tin vs) (t1.askK _) (tin_del_a (t1.askK _) hn (cl_a hc (.inr (.inl h5))))
   by_cases h6:c.what=6
   ·rw[body_6 h6]
    unfold pNextP allW
    have t2:=t1.askR (loK 112 c.nm) (heK 112 c.nm)
    refine in_allL (P:=Tin vs) t1 ?_
    split
    ·simp only
     split
     ·rename_i q
      split
      ·exact in_err (P:=Tin vs) t2
      ·exact in_puts (P:=Tin vs) t2 (tin_put_p t2 hn (Bur.fs_ok q) (cl_ow hc (.inr (.inr (.inr (.inl h6))))) hN hk)
     ·exact in_err (P:=Tin vs) t2
    ·exact in_err (P:=Tin vs) t2
   by_cases h7:c.what=7
   ·rw[body_7 h7]
    unfold pNextA allW
    have t2:=t1.askR (loK 112 c.nm) (heK 112 c.nm)
    refine in_allL (P:=Tin vs) t1 ?_
    split
    ·rename_i qp
     refine in_allA (P:=Tin vs) t2 ?_
     have t3:=t2.askR (loK 97 c.nm) (heK 97 c.nm)
     split
     ·rename_i q
      obtain⟨n1,n2⟩:=Bur.nx_ok q
      refine in_puts (P:=Tin vs) t3 (tin_put_a t3 hn n1 (cl_ow hc (.inr (.inr (.inr (.inr h7))))) hN hk (by show _∈(o1.spans ++ [(loK 112 c.nm,heK 112 c.nm)]) ++ [(loK 97 c.nm,heK 97 c.nm)];simp) ?_)
      obtain⟨x,hx,hxp⟩:=List.mem_map.1 qp
      obtain⟨k',z1,z2⟩:=(lot_see hT t1.ris hn).1 hx
      rw[hxp] at z2
      exact⟨k',x.2,c.p,z1,z2,n2⟩
     ·exact in_err (P:=Tin vs) t3
    ·exact in_err (P:=Tin vs) t2
   by_cases h8:c.what=8
   ·rw[body_8 h8]
    unfold pList
    exact in_allL (P:=Tin vs) t1 (t1.askR _ _)
   ·rw[body_9 (by omega)]
    unfold pWho
    refine in_asks (P:=Tin vs) (sh_ak hc _ (by decide)) t1 (fun _=>?_) (fun v _=>?_)
    ·rw[if_neg (by decide)]
     refine in_allL (P:=Tin vs) (t1.askK _) ?_
     split
     ·exact in_err (P:=Tin vs) ((t1.askK _).askR _ _)
     ·exact (t1.askK _).askR _ _
    ·rw[if_pos rfl]
     exact t1.askK _
 ·rw[lo_bad hc]
  exact t
end Go.Proofs.YtmghmpclmphccaaGreatDoor.Pa
namespace Go.Proofs.YtmghmpclmphccaaGreatDoor.Pa
open Go.RowKit Vs
structure Hz (k:Nat) (d:Dk):Prop where
 dp:Dp k d
 vs:d.vs=tab d.lg.ls
 ord:∀ j,j<=d.lg.ls.length->Ino (fun key=>vget (tab (d.lg.ls.take j)) key j)
 op:∀ o∈d.op,Tin d.vs o
theorem Hz.view {k:Nat} {d:Dk} (h:Hz k d):Ino (fun key=>vget d.vs key d.last):=by
 have:=h.ord d.lg.ls.length (Nat.le_refl _)
 rw[List.take_length] at this
 rw[h.vs,h.dp.ok.last]
 exact this
theorem Hz.au {k:Nat} {d:Dk} (h:Hz k d):Bur.auP (allP d)=(0,0):=by
 obtain⟨h1,h2⟩:=allAt_is h.dp.ok.tb d.last
 rw[allP_at]
 exact au_ok h1 h2 h.view
theorem tin_grow {vs ws:List Ver} {o:Ox} (h:Tin vs o) (e:∀ key,vget ws key o.sees=vget vs key o.sees):Tin ws o:=by
 have q:seeO ws o.sees o.own=seeO vs o.sees o.own:=funext (fun k=>by
  unfold seeO
  cases ownC o.own k with
  | none=>exact e k
  | some c=>rfl)
 exact⟨h.ris,by rw[q];exact h.ino,h.cov⟩
theorem ino_none:Ino (fun _=>none):=⟨fun k v h=>(by cases h),fun k v e h=>(by cases h),fun k v n a h=>(by cases h)⟩
theorem Hz.new (room:Int) (h0:0<=room) (h1:room<=100000):Hz 0 (dk0 room):=by
 refine⟨.new h0 h1,rfl,fun j hj=>?_,fun o ho=>by simp[dk0] at ho⟩
 have e:(dk0 room).lg.ls.take j=[]:=List.take_nil
 rw[e]
 exact ino_none
theorem Hz.more {k m:Nat} {d:Dk} (h:Hz k d) (hk:k<=m):Hz m d:=⟨⟨h.dp.ok,by have:=h.dp.wl;omega,by have:=h.dp.ids;omega,h.dp.spz⟩,h.vs,h.ord,h.op⟩
theorem Hz.bg {k:Nat} {d:Dk} (h:Hz k d):Hz (k+1) (bgD d):=by
 have dp:=h.dp.bg
 have hv:=h.view
 by_cases g:bgF d=0
 ·have e:bgD d={ d with ids:=d.ids+1,op:=d.op ++ [ox0 (d.ids+1) d.last] }:=if_pos g
  rw[e] at dp ⊢
  refine⟨dp,h.vs,h.ord,fun o ho=>?_⟩
  rcases List.mem_append.1 ho with q|q
  ·exact h.op o q
  ·rw[List.mem_singleton.1 q]
   refine⟨List.Pairwise.nil,hv,⟨fun c hc=>?_,fun c hc=>?_,fun c hc=>?_,fun c hc=>?_,fun c hc=>?_⟩⟩
   all_goals (exact absurd hc (by simp[ox0]))
 ·have e:bgD d=d:=if_neg g
  rw[e] at dp ⊢
  exact⟨dp,h.vs,h.ord,h.op⟩
theorem run_none:∀ (g:Pg) (d:Dk) (i:Int),opI d i=none->runD g d i=d
 | .ret _ _,_,_,_=>rfl
 | .get k K,d,i,h=>by
  have e:dgD d i k=d:=by unfold dgD;rw[h]
  show runD (K (dgS d i k) (dgF d i k)) (dgD d i k) i=d
  rw[e]
  exact run_none _ d i h
 | .rng lo hi K,d,i,h=>by
  have e:drD d i lo hi=d:=by unfold drD;rw[h]
  show runD (K (drS d i lo hi) (drF d i)) (drD d i lo hi) i=d
  rw[e]
  exact run_none _ d i h
 | .chg c K,d,i,h=>by
  have e:dcD d i c=d:=by unfold dcD;rw[h]
  show runD (K (dcF d i c)) (dcD d i c) i=d
  rw[e]
  exact run_none _ d i h
theorem Hz.run {k:Nat} {d:Dk} (h:Hz k d) (c:Cl) (i:Int):Hz (k+1) (runD (doP c) d i):=by
 have dp:=dp_run h.dp c i
 cases e:opI d i with
 | none=>
  rw[run_none _ d i e] at dp ⊢
  exact⟨dp,h.vs,h.ord,h.op⟩
 | some o=>
  obtain⟨_,_,r3⟩:=run_lo (doP c) d i o h.dp.ok.ids e
  rw[r3] at dp ⊢
  refine⟨dp,h.vs,h.ord,fun x hx=>?_⟩
  obtain⟨y,hy,rfl⟩:=List.mem_map.1 hx
  show Tin d.vs _
  split
  ·exact tin_do h.dp.ok.tb (h.op o (opI_some e).1) c
  ·exact h.op y hy
theorem Hz.del {k:Nat} {d:Dk} (h:Hz k d) (i:Int):Hz (k+1) (opDel d i):=⟨h.dp.del i,h.vs,h.ord,fun o ho=>h.op o (memF ho)⟩
theorem Hz.lg {k:Nat} {d d':Dk} (h:Hz k d) (dp:Dp (k+1) d') (e1:d'.lg.ls=d.lg.ls) (e2:d'.vs=d.vs) (e3:∀ o∈d'.op,o∈d.op):Hz (k+1) d':=⟨dp,by rw[e1,e2];exact h.vs,by rw[e1];exact h.ord,fun o ho=>by rw[e2];exact h.op o (e3 o ho)⟩
theorem Hz.cm {k:Nat} {d:Dk} (h:Hz k d) (i:Int):Hz (k+1) (cmD d i):=by
 have dp:=h.dp.cm i
 have ok:=h.dp.ok
 unfold cmD at dp ⊢
 cases e:opI d i with
 | none=>rw[e] at dp;exact h.lg dp rfl rfl (fun _ ho=>ho)
 | some o=>
  rw[e] at dp
  simp only at dp ⊢
  have ho:=(opI_some e).1
  by_cases hc:clash d.vs o=true
  ·rw[if_pos hc] at dp ⊢
   exact h.lg dp rfl rfl (fun _ hx=>memF hx)
  ·rw[if_neg hc] at dp ⊢
   by_cases he:o.own=[]
   ·rw[if_pos he] at dp ⊢
    exact h.lg dp rfl rfl (fun _ hx=>memF hx)
   ·rw[if_neg he] at dp ⊢
    by_cases ha:apF d.lg o.own=0
    ·rw[if_pos ha] at dp ⊢
     have els:(apG d.lg o.own).ls=d.lg.ls ++ [o.own]:=by rw[ls_ap,if_pos ha]
     have elast:d.last=d.lg.ls.length:=ok.last
     have evs:d.vs++o.own.map (verC (d.last+1))=tab (d.lg.ls ++ [o.own]):=by rw[tab_app,h.vs,elast]
     have hr:risC o.own:=(h.op o ho).ris
     have hs:=(ok.op o ho).s1
     have new:Ino (fun key=>vget (tab (d.lg.ls ++ [o.own])) key ((d.lg.ls.length+1:Nat):Int)):=by
      have q:=ino_cm (b:=d.last) (agr_calm (Bool.eq_false_iff.2 hc) hs) h.view (h.op o ho).ino (h.op o ho).cov
      have e2:(fun key=>vget (tab (d.lg.ls ++ [o.own])) key ((d.lg.ls.length+1:Nat):Int))=seeO d.vs d.last o.own:=funext (fun key=>by
       rw[<- evs,<- own_get ok.tb ok.tl (show d.last<d.last+1 by omega) hr key]
       congr 1
       rw[elast]
       omega)
      rw[e2]
      exact q
     refine⟨dp,?_,fun j hj=>?_,fun x hx=>?_⟩
     ·show d.vs++o.own.map (verC (d.last+1))=tab (apG d.lg o.own).ls
      rw[els,evs]
     ·have hj':j<=(d.lg.ls ++ [o.own]).length:=by rw[<- els];exact hj
      show Ino (fun key=>vget (tab ((apG d.lg o.own).ls.take j)) key j)
      rw[els]
      by_cases hl:j<=d.lg.ls.length
      ·rw[List.take_append_of_le_length hl]
       exact h.ord j hl
      ·have hj2:j=d.lg.ls.length+1:=by simp at hj';omega
       rw[List.take_of_length_le (by simp;omega),hj2]
       exact new
     ·show Tin (d.vs++o.own.map (verC (d.last+1))) x
      have hx':x∈d.op:=memF hx
      have sx:=(ok.op x hx').s1
      refine tin_grow (h.op x hx') (fun key=>vget_app (fun y hy=>?_))
      obtain⟨c,_,rfl⟩:=List.mem_map.1 hy
      show x.sees<d.last+1
      omega
    ·rw[if_neg ha] at dp ⊢
     exact h.lg dp (by show (apG d.lg o.own).ls=_;rw[ls_ap,if_neg ha]) rfl (fun _ hx=>memF hx)
theorem Hz.fl {k:Nat} {d:Dk} (h:Hz k d):Hz (k+1) (flD d):=h.lg h.dp.fl (by show (syG d.lg).ls=_;rw[ls_sy]) rfl (fun _ ho=>ho)
theorem Hz.fd {k:Nat} {d:Dk} (h:Hz k d) {n:Int} (hn:n<=9223372036854775807):Hz (k+1) (fdD d n):=h.lg (h.dp.fd hn) rfl rfl (fun _ ho=>ho)
theorem Hz.cd {k:Nat} {d:Dk} (h:Hz k d) (n:Int):Hz (k+1) (cdD d n):=by
 obtain⟨j,hj,e,_⟩:=fitL_take (crN d.lg n) d.lg.ls
 refine⟨h.dp.cd n,rfl,fun i hi=>?_,fun o ho=>by cases ho⟩
 have els:(cdD d n).lg.ls=d.lg.ls.take j:=e
 rw[els] at hi ⊢
 have hi':i<=j:=by rw[List.length_take] at hi;omega
 rw[List.take_take,Nat.min_eq_left hi']
 exact h.ord i (by omega)
theorem Hz.once {k:Nat} {d:Dk} (h:Hz k d) (c:Cl):Hz (k+3) (onD d c):=by
 unfold onD
 split
 ·split
  ·exact ((h.bg).run c (bgN d)).cm _
  ·exact ((h.bg).run c (bgN d)).del _
 ·exact h.bg.more (by omega)
end Go.Proofs.YtmghmpclmphccaaGreatDoor.Pa
namespace Go.Proofs.YtmghmpclmphccaaGreatDoor.Pa
open Go.RowKit Go.Maps Vs
theorem all_few {k:Nat} {d:Dk} (h:Dp k d) (hk:k<=1000):(allP d).length<=1000:=by
 have h1:=allP_len d
 have h2:=h.ok.len
 have h3:=h.wl
 unfold wt at h3
 omega
theorem all_small {d:Dk} (h:OkD d):∀ x∈allP d,x.1.size<4294967281:=fun x hx=>by
 rw[allP_at] at hx
 obtain⟨y,hy,_,_⟩:=vget_some.1 (((allAt_is h.tb d.last).2 x).1 hx)
 obtain⟨g1,g2,_⟩:=see_some hy
 have:=(h.tb.each y g1).1
 have h24:=this.2.1
 rw[g2] at h24
 omega
section
variable {T:Td} {w0 w w':World} {K:Nat->Prop} {H:Nat} {d:Dk} {S:Ses}
theorem H1.flush (V:DFace T) {k:Nat} (h:H1 T w0 K w H d S) (dp:Dp k d) (hk:k<=800) :
  Calls Tryz.prog 21 #[.pointer (some ⟨H,0,none⟩)] w fun e w'=>e=.returned (ev (flF d))/\H1 T w0 K w' H (flD d) S/\But (fun j=>¬ K j) w w':=by
 obtain⟨G,h1,h2⟩:=h.ex
 refine (hallFlush V h1 dp.ok (dp.sm (by omega))).mono ?_
 rintro e w' ⟨rfl,hp⟩
 exact⟨rfl,h.op h2 hp⟩
theorem H1.fail (V:DFace T) {k:Nat} (n:Int) (hn:I6 n) (h:H1 T w0 K w H d S) (dp:Dp k d) (hk:k<=800) :
  Calls Tryz.prog 22 #[.pointer (some ⟨H,0,none⟩),.int .i64 n] w fun e w'=>e=.returned (.tuple #[])/\H1 T w0 K w' H (fdD d n) S/\But (fun j=>¬ K j) w w':=by
 obtain⟨G,h1,h2⟩:=h.ex
 refine (hallFail V h1 dp.ok (dp.sm (by omega)) n hn.1 hn.2).mono ?_
 rintro e w' ⟨rfl,hp⟩
 exact⟨rfl,h.op h2 hp⟩
theorem H1.crash (V:DFace T) {k:Nat} (n:Int) (hn:I6 n) (h:H1 T w0 K w H d S) (dp:Dp k d) (hk:k<=800) :
  Calls Tryz.prog 23 #[.pointer (some ⟨H,0,none⟩),.int .i64 n] w fun e w'=>e=.returned (.tuple #[])/\H1 T w0 K w' H (cdD d n) []/\But (fun j=>¬ K j) w w':=by
 obtain⟨G,h1,h2⟩:=h.ex
 refine (hallCrash V h1 dp.ok (dp.sm (by omega)) n hn.1 hn.2).mono ?_
 rintro e w' ⟨rfl,hp⟩
 exact⟨rfl,h.op h2 hp⟩
theorem hoS_len (d:Dk) (S:Ses) (k:ByteArray):(hoS d S k).length<=S.length+1:=by
 unfold hoS
 split
 ·simp
 ·omega
theorem hz_open {k:Nat} (h:Hz k d) (who:ByteArray):Hz (k+1) (hoD d S who):=by
 unfold hoD
 split
 ·exact h.bg
 ·exact h.more (by omega)
theorem hz_close {k:Nat} (h:Hz k d) (who:ByteArray):Hz (k+1) (hcD d S who):=by
 unfold hcD
 split
 ·exact h.more (by omega)
 ·exact h.cm _
theorem hz_quit {k:Nat} (h:Hz k d) (who:ByteArray):Hz (k+1) (hqD d S who):=by
 unfold hqD
 split
 ·exact h.more (by omega)
 ·exact h.del _
theorem hz_ask {k:Nat} (h:Hz k d) (who:ByteArray) (c:Cl):Hz (k+1) (haD d S who c):=by
 unfold haD
 split
 ·exact h.more (by omega)
 ·exact h.run c _
theorem H1.safe (V:DFace T) {k:Nat} (h:H1 T w0 K w H d S) (dp:Dp k d) (hk:k<=800) :
  Calls Tryz.prog 20 #[.pointer (some ⟨H,0,none⟩)] w fun e w'=>e=.returned (.int .i64 (sfN d))/\Below w.heap.size w w':=by
 obtain⟨G,h1,h2⟩:=h.ex
 exact hallSafe V h1 dp.ok (dp.sm (by omega))
theorem H1.mine (V:DFace T) {E:Nat->Prop} (en:En w0) (h:H1 T w0 K w H d S) (hb:But E w w') (hE:∀ j,E j->K j) (hl:∀ j,E j->w0.heap.size<=j):H1 T w0 (fun j=>K j \/ (w.heap.size<=j/\j<w'.heap.size)) w' H d S:=by
 obtain⟨G,h1,h2⟩:=h.ex
 have s:=hb.size
 refine⟨⟨G,h1.but V hb (fun j hj q=>h2 j (hE j q) hj) (h1.en.but hb (fun j hj q=>by have:=en.lt q;have:=hl j hj;omega)),fun j hj q=>?_⟩,fun j hj=>?_,fun j hj=>.inl (h.old j hj),But.under2 h.bl hb h.bl.size (fun i hi g=>by have:=hl i g;omega)⟩
 ·rcases hj with g|g
  ·exact h2 j g q
  ·have:=h1.lt q
   have:=g.1
   omega
 ·rcases hj with g|g
  ·exact Nat.lt_of_lt_of_le (h.kl j g) s
  ·exact g.2
end
end Go.Proofs.YtmghmpclmphccaaGreatDoor.Pa
namespace Go.Proofs.YtmghmpclmphccaaGreatDoor.Pa
open Go.RowKit Go.Maps Vs
def Kz (T:Td) (w0 w:World) (H:Nat) (d:Dk) (S:Ses) (v:Value) (ls:List (List Pr)):Prop:=∃ K,H1 T w0 K w H d S/\OwnP w0.heap.size K w v ls
section
variable {T:Td} {w0 w w':World} {H:Nat} {d d':Dk} {S S':Ses} {v:Value} {ls:List (List Pr)}
theorem Kz.step (V:DFace T) (h:Kz T w0 w H d S v ls) (hb:Below w.heap.size w w'):Kz T w0 w' H d S v ls:=by
 obtain⟨K,a,b⟩:=h
 exact⟨_,a.step V hb,b.kn hb⟩
theorem Kz.bl (h:Kz T w0 w H d S v ls):Below w0.heap.size w0 w:=by
 obtain⟨K,a,b⟩:=h
 exact a.bl
theorem Kz.en (h:Kz T w0 w H d S v ls):En w:=by
 obtain⟨K,a,b⟩:=h
 exact a.en
theorem Kz.form (h:Kz T w0 w H d S v ls):∃ p c,v=.slice p ls.length c/\ls.length<=c/\c<=9223372036854775807:=by
 obtain⟨K,a,b⟩:=h
 exact b.form
theorem kz_of {K:Nat->Prop} (b:OwnP w0.heap.size K w v ls) (a:H1 T w0 K w' H d' S') (hb:But (fun j=>¬ K j) w w'):Kz T w0 w' H d' S' v ls:=⟨K,a,b.but hb (fun _ hj hn=>hn hj) (fun _ _ hk=>hk)⟩
theorem Kz.open (V:DFace T) {k:Nat} (who:ByteArray) (h:Kz T w0 w H d S v ls) (dp:Dp k d) (hk:k<=800) (hw:who.size<=maxLen) (hS:S.length<=1000) :
  Calls Tryz.prog 8 #[.pointer (some ⟨H,0,none⟩),.string who] w fun e w'=>e=.returned (ev (hoF d S who))/\Kz T w0 w' H (hoD d S who) (hoS d S who) v ls:=by
 obtain⟨K,a,b⟩:=h
 exact (a.open V who dp hk hw hS).mono (fun e w' ⟨q1,q2,q3⟩=>⟨q1,kz_of b q2 q3⟩)
theorem Kz.close (V:DFace T) {k:Nat} (who:ByteArray) (h:Kz T w0 w H d S v ls) (dp:Dp k d) (hk:k<=800) (hw:who.size<=maxLen) :
  Calls Tryz.prog 10 #[.pointer (some ⟨H,0,none⟩),.string who] w fun e w'=>e=.returned (.tuple #[.int .i64 (hcN d S who),ev (hcF d S who)])/\Kz T w0 w' H (hcD d S who) (sDel S who) v ls:=by
 obtain⟨K,a,b⟩:=h
 exact (a.close V who dp hk hw).mono (fun e w' ⟨q1,q2,q3⟩=>⟨q1,kz_of b q2 q3⟩)
theorem Kz.quit (V:DFace T) {k:Nat} (who:ByteArray) (h:Kz T w0 w H d S v ls) (dp:Dp k d) (hk:k<=800) (hw:who.size<=maxLen) :
  Calls Tryz.prog 9 #[.pointer (some ⟨H,0,none⟩),.string who] w fun e w'=>e=.returned (ev (hqF d S who))/\Kz T w0 w' H (hqD d S who) (sDel S who) v ls:=by
 obtain⟨K,a,b⟩:=h
 exact (a.quit V who dp hk hw).mono (fun e w' ⟨q1,q2,q3⟩=>⟨q1,kz_of b q2 q3⟩)
theorem Kz.flush (V:DFace T) {k:Nat} (h:Kz T w0 w H d S v ls) (dp:Dp k d) (hk:k<=800) :
  Calls Tryz.prog 21 #[.pointer (some ⟨H,0,none⟩)] w fun e w'=>e=.returned (ev (flF d))/\Kz T w0 w' H (flD d) S v ls:=by
 obtain⟨K,a,b⟩:=h
 exact (a.flush V dp hk).mono (fun e w' ⟨q1,q2,q3⟩=>⟨q1,kz_of b q2 q3⟩)
theorem Kz.fail (V:DFace T) {k:Nat} (n:Int) (hn:I6 n) (h:Kz T w0 w H d S v ls) (dp:Dp k d) (hk:k<=800) :
  Calls Tryz.prog 22 #[.pointer (some ⟨H,0,none⟩),.int .i64 n] w fun e w'=>e=.returned (.tuple #[])/\Kz T w0 w' H (fdD d n) S v ls:=by
 obtain⟨K,a,b⟩:=h
 exact (a.fail V n hn dp hk).mono (fun e w' ⟨q1,q2,q3⟩=>⟨q1,kz_of b q2 q3⟩)
theorem Kz.crash (V:DFace T) {k:Nat} (n:Int) (hn:I6 n) (h:Kz T w0 w H d S v ls) (dp:Dp k d) (hk:k<=800) :
  Calls Tryz.prog 23 #[.pointer (some ⟨H,0,none⟩),.int .i64 n] w fun e w'=>e=.returned (.tuple #[])/\Kz T w0 w' H (cdD d n) [] v ls:=by
 obtain⟨K,a,b⟩:=h
 exact (a.crash V n hn dp hk).mono (fun e w' ⟨q1,q2,q3⟩=>⟨q1,kz_of b q2 q3⟩)
theorem Kz.once (V:DFace T) {k:Nat} (c:Cl) (h:Kz T w0 w H d S v ls) (dp:Dp k d) (hk:k<=800) :
  Calls Tryz.prog 16 #[.pointer (some ⟨H,0,none⟩),clV c] w fun e w'=>∃ pu cu,e=.returned (.tuple #[anV (onA d c) (.slice pu (onA d c).l.length cu),.int .i64 (onN d c),ev (onF d c)])/\Kz T w0 w' H (onD d c) S v ls:=by
 obtain⟨K,a,b⟩:=h
 refine (a.once V c dp hk).mono ?_
 rintro e w' ⟨u,rfl,row,q2,q3⟩
 obtain⟨pu,cu,rfl⟩:=own_form row
 exact⟨pu,cu,rfl,kz_of b q2 q3⟩
theorem Kz.ask (V:DFace T) {k:Nat} (who:ByteArray) (c:Cl) (h:Kz T w0 w H d S v ls) (dp:Dp k d) (hk:k<=800) (hw:who.size<=maxLen) :
  Calls Tryz.prog 11 #[.pointer (some ⟨H,0,none⟩),.string who,clV c] w fun e w'=>∃ pu cu,e=.returned (.tuple #[anV (haA d S who c) (.slice pu (haA d S who c).l.length cu),ev (haF d S who c)])/\Kz T w0 w' H (haD d S who c) S v ls:=by
 obtain⟨K,a,b⟩:=h
 refine (a.ask V who c dp hk hw).mono ?_
 rintro e w' ⟨u,rfl,row,q2,q3⟩
 obtain⟨pu,cu,rfl⟩:=own_form row
 exact⟨pu,cu,rfl,kz_of b (q2.mono (fun j hj=>.inl hj) a.old) q3⟩
theorem Kz.all (V:DFace T) {k:Nat} (h:Kz T w0 w H d S v ls) (dp:Dp k d) (hk:k<=800) :
  Calls Tryz.prog 15 #[.pointer (some ⟨H,0,none⟩)] w fun e w'=>∃ (q:Option Addr) (cq:Nat),e=.returned (.slice q (allP d).length cq)/\(allP d).length<=cq/\PrIn (fun j=>w.heap.size<=j) w' q (allP d)/\Below w.heap.size w w':=by
 obtain⟨K,a,b⟩:=h
 exact a.all V dp hk
theorem Kz.safe (V:DFace T) {k:Nat} (h:Kz T w0 w H d S v ls) (dp:Dp k d) (hk:k<=800) :
  Calls Tryz.prog 20 #[.pointer (some ⟨H,0,none⟩)] w fun e w'=>e=.returned (.int .i64 (sfN d))/\Below w.heap.size w w':=by
 obtain⟨K,a,b⟩:=h
 exact a.safe V dp hk
theorem Kz.at {p:Option Addr} {c:Nat} (h:Kz T w0 w H d S (.slice p ls.length c) ls) {i:Nat} {l:List Pr} (hi:ls[i]? = some l):∃ b q cq,p=some ⟨b,0,none⟩/\b<w.heap.size/\w.cell? ⟨b,i,none⟩=some (.slice q l.length cq)/\l.length<=cq/\PrAt w q l:=by
 obtain⟨K,a,b⟩:=h
 obtain⟨b,q,cq,h1,h2,_,h4,h5,h6⟩:=b.at hi
 exact⟨b,q,cq,h1,h2,h4,h5,h6.at⟩
theorem Kz.take {p:Option Addr} {c:Nat} (h:Kz T w0 w H d S (.slice p ls.length c) ls) {k:Nat} (hk:k<=ls.length):Kz T w0 w H d S (.slice p k c) (ls.take k):=by
 obtain⟨K,a,b⟩:=h
 exact⟨K,a,b.take hk⟩
theorem Kz.app (V:DFace T) (en:En w0) {q:Option Addr} {A:List Pr} {c:Nat} (h:Kz T w0 w H d S v ls) (hb:Below w.heap.size w w') (hp:PrIn (fun j=>w.heap.size<=j) w' q A) (hc:A.length<=c) :
  ∃ vs,w'.ownsRow w0.heap.size 52 1 v ls.length vs/\w0.heap.size<=w'.heap.size /\ ∀ (v4:Value) (w5:World),w5.ownsRow w0.heap.size 52 1 v4 (ls.length+1) (vs ++ [.slice q A.length c])->w'.grownBy w5 v.ownBlock->(v4.ownBlock=v.ownBlock \/ v4.ownBlock=some w'.heap.size)->Kz T w0 w5 H d S v4 (ls ++ [A]):=by
 obtain⟨K,a,b⟩:=h
 have a2:=a.step V hb
 obtain⟨vs0,r0,_,_⟩:=b
 have hv:∀ j,v.ownBlock=some j->j<w.heap.size:=fun j e=>(op_lt r0 e).2
 obtain⟨vs,r1,r2,r3⟩:=(show OwnP w0.heap.size K w v ls from ⟨vs0,r0,‹_›,‹_›⟩).kn hb
 refine⟨vs,r1,a2.bl.size,fun v4 w5 o4 g4 t4=>?_⟩
 have hp2:PrIn (fun j=>Kn K w w' j/\v.ownBlock≠some j) w' q A:=hp.mono (fun j hj hj2=>⟨.inr ⟨hj2,hj⟩,fun e=>by have:=hv j e;omega⟩)
 have hbt:But (fun j=>v.ownBlock=some j) w' w5:=⟨g4.os,g4.tape,g4.output,g4.size,fun k hk hF=>g4.block k hk (fun e=>hF e.symm)⟩
 exact⟨_,a2.mine V en hbt (fun j hj=>r2 j hj) (fun j hj=>(op_lt r1 hj).1),OwnP.more r1 r2 r3 hp2 hc o4 g4 t4⟩
end
end Go.Proofs.YtmghmpclmphccaaGreatDoor.Pa
namespace Go.Proofs.YtmghmpclmphccaaGreatDoor.Pa
open Go.RowKit Vs
theorem Hz.all {k:Nat} {d:Dk} (h:Hz k d):allP d=allT d.lg.ls:=by rw[allP_at,h.vs,h.dp.ok.last];rfl
structure Kq (d d':Dk):Prop where
 ls:d'.lg.ls=d.lg.ls
 sf:sfN d<=sfN d'
structure Kr (d d':Dk):Prop where
 ls:∃ own,d'.lg.ls=d.lg.ls ++ [own]
 sf:sfN d<=sfN d'
theorem Kq.of {d d':Dk} (h:d'.lg=d.lg):Kq d d':=⟨by rw[h],by unfold sfN;rw[h];exact Nat.le_refl _⟩
theorem kq_bg (d:Dk):Kq d (bgD d):=.of (wt_bg d).2.2.1
theorem kq_run {d:Dk} (h:OkD d) (c:Cl) (i:Int):(runD (doP c) d i).lg=d.lg:=by
 cases e:opI d i with
 | none=>rw[run_none _ d i e]
 | some o=>
  obtain⟨_,_,r3⟩:=run_lo (doP c) d i o h.ids e
  rw[r3]
  rfl
theorem kq_cm {d:Dk} (h:OkD d) (i:Int):(Kq d (cmD d i)/\(cmF d i=0 -> ¬ cmN d i=((wasT d.lg.ls).length:Int))) \/ (Kr d (cmD d i)/\cmF d i=0/\cmN d i=((wasT d.lg.ls).length:Int)):=by
 have hl:((wasT d.lg.ls).length:Int)=d.last+1:=by rw[wasT_len,h.last];omega
 rcases cm_cases h i with ⟨h1,h2,h3,h4,h5⟩|⟨own,h0,h1,h2,h3,h4,h5,h6⟩
 ·exact .inl ⟨⟨h1,by unfold sfN;rw[h1,h3];exact Nat.le_refl _⟩,fun g=>by have:=h5 g;omega⟩
 ·exact .inr ⟨⟨⟨own,h1⟩,by unfold sfN;rw[h1,h3];exact fitL_more _ _ _⟩,h5,by omega⟩
theorem kq_close {d:Dk} (h:OkD d) (S:Ses) (who:ByteArray):(Kq d (hcD d S who)/\(hcF d S who=0 -> ¬ hcN d S who=((wasT d.lg.ls).length:Int))) \/ (Kr d (hcD d S who)/\hcF d S who=0/\hcN d S who=((wasT d.lg.ls).length:Int)):=by
 unfold hcD hcF hcN
 cases sId S who with
 | none=>exact .inl ⟨.of rfl,fun g=>by cases g⟩
 | some i=>exact kq_cm h i
theorem kq_once {k:Nat} {d:Dk} (h:Hz k d) (c:Cl):(Kq d (onD d c)/\(onF d c=0 -> ¬ onN d c=((wasT d.lg.ls).length:Int))) \/ (Kr d (onD d c)/\onF d c=0/\onN d c=((wasT d.lg.ls).length:Int)):=by
 have hx:(onX d c).lg=d.lg:=by
  unfold onX
  rw[kq_run h.bg.dp.ok c _,(wt_bg d).2.2.1]
 have ok:=(h.bg.run c (bgN d)).dp.ok
 unfold onD onF onN
 by_cases h1:bgF d=0
 ·rw[if_pos h1]
  unfold onF
  rw[if_pos h1]
  by_cases h2:onG d c=0
  ·rw[if_pos h2,if_pos h2]
   have q:=kq_cm (d:=onX d c) ok (bgN d)
   rw[hx] at q
   have sf:sfN (onX d c)=sfN d:=by unfold sfN;rw[hx]
   rcases q with ⟨q1,q2⟩|⟨q1,q2,q3⟩
   ·refine .inl ⟨⟨by rw[q1.ls,hx],by have:=q1.sf;omega⟩,fun g=>?_⟩
    rw[if_pos g]
    exact q2 g
   ·refine .inr ⟨⟨by obtain⟨own,e⟩:=q1.ls;exact⟨own,by rw[e,hx]⟩,by have:=q1.sf;omega⟩,q2,?_⟩
    rw[if_pos q2]
    exact q3
  ·rw[if_neg h2,if_neg h2]
   exact .inl ⟨.of hx,fun g=>absurd g h2⟩
 ·rw[if_neg h1]
  unfold onF
  rw[if_neg h1]
  exact .inl ⟨kq_bg d,fun g=>absurd g h1⟩
theorem kq_fl {k:Nat} {d:Dk} (h:Hz k d):Kq d (flD d):=by
 have e:=ls_sy d.lg
 refine⟨e,?_⟩
 have hsl:=h.dp.ok.lg.safe
 have hs:sfN (flD d)=(fitL (syG d.lg).safe d.lg.ls).length:=by show (fitL (syG d.lg).safe (syG d.lg).ls).length=_;rw[e]
 rw[hs]
 unfold syG
 by_cases h3:d.lg.down=true
 ·rw[if_pos h3];exact Nat.le_refl _
 ·rw[if_neg h3]
  by_cases h4:d.lg.left=0
  ·rw[if_pos h4];exact Nat.le_refl _
  ·rw[if_neg h4]
   refine fitL_mono ?_ _
   show d.lg.safe<=d.lg.by.length
   rw[(h.dp.ok.lg.up (by simpa using h3)).2]
   exact hsl
theorem kq_fd (d:Dk) (n:Int):Kq d (fdD d n):=⟨rfl,Nat.le_refl _⟩
theorem kq_open (d:Dk) (S:Ses) (who:ByteArray):Kq d (hoD d S who):=by
 unfold hoD
 split
 ·exact kq_bg d
 ·exact .of rfl
theorem kq_quit (d:Dk) (S:Ses) (who:ByteArray):Kq d (hqD d S who):=by
 unfold hqD
 split
 ·exact .of rfl
 ·exact .of rfl
theorem kq_cd {d:Dk} (h:OkD d) (n:Int):∃ j:Nat,j<=d.lg.ls.length/\(cdD d n).lg.ls=d.lg.ls.take j/\sfN (cdD d n)=j/\sfN d<=j:=by
 obtain⟨j,h1,h2,h3⟩:=fitL_take (crN d.lg n) d.lg.ls
 have hsl:=h.lg.safe
 have hlen:(d.lg.ls.take j).length=j:=by rw[List.length_take];omega
 have hs:sfN (cdD d n)=j:=by
  show (fitL (frs (fitL (crN d.lg n) d.lg.ls)).length (fitL (crN d.lg n) d.lg.ls)).length=j
  rw[fitL_full (Nat.le_refl _),h2,hlen]
 have hsj:sfN d<=j:=by
  have:=fitL_mono (crN_safe d.lg n (by have:=h.lg.few;omega)) d.lg.ls
  rw[h2,hlen] at this
  exact this
 exact⟨j,h1,h2,hs,hsj⟩
end Go.Proofs.YtmghmpclmphccaaGreatDoor.Pa
namespace Go.Proofs.YtmghmpclmphccaaGreatDoor.Pa
open Go.RowKit Go.Maps Vs
def ca:Cl:=⟨1,⟨#[120]⟩,(0,0),0,0,⟨#[111]⟩⟩
def cc:Cl:=⟨2,⟨#[120]⟩,(256,24),0,0,⟨#[111]⟩⟩
def ce:Cl:=⟨7,⟨#[120]⟩,(256,24),0,0,⟨#[111]⟩⟩
def nxD (d:Dk) (c:Cl):Dk:=cmD (onX d c) (bgN d)
theorem na:bgF (dk0 1000)=0/\onG (dk0 1000) ca=0/\cmF (onX (dk0 1000) ca) (bgN (dk0 1000))=0:=by decide +kernel
theorem nc:bgF (nxD (dk0 1000) ca)=0/\onG (nxD (dk0 1000) ca) cc=0/\cmF (onX (nxD (dk0 1000) ca) cc) (bgN (nxD (dk0 1000) ca))=0:=by decide +kernel
theorem nf:bgF (nxD (nxD (dk0 1000) ca) cc)=0/\onG (nxD (nxD (dk0 1000) ca) cc) ce=0/\cmF (onX (nxD (nxD (dk0 1000) ca) cc) ce) (bgN (nxD (nxD (dk0 1000) ca) cc))=0/\cmN (onX (nxD (nxD (dk0 1000) ca) cc) ce) (bgN (nxD (nxD (dk0 1000) ca) cc))=3/\(runA (doP ce) (bgD (nxD (nxD (dk0 1000) ca) cc)) (bgN (nxD (nxD (dk0 1000) ca) cc))).ad=257:=by decide +kernel
theorem nx_dp {k:Nat} {d:Dk} (c:Cl) (h:Dp k d):Dp (k+2) (nxD d c):=by
 obtain⟨o1,o2,o3,o4⟩:=on_good c h.ok h.spz
 have:=h.wl
 have:=h.ids
 exact (Dp.mk (k:=k+1) o1 (by omega) (by omega) o4).cm (bgN d)
section
variable {T:Td} {w:World} {F:Nat->Prop} {B:Nat} {d:Dk}
theorem onceForm (V:DFace T) (c:Cl) {H M k:Nat} (ad n:Int) (h:Ds T w F B d) (dp:Dp k d) (hk:k<=800) (hh:Hh w H B M) (nH:¬ F H) (g1:bgF d=0) (g2:onG d c=0) (g3:cmF (onX d c) (bgN d)=0) (ga:(runA (doP c) (bgD d) (bgN d)).ad=ad) (gn:cmN (onX d c) (bgN d)=n) :
  Calls Tryz.prog 16 #[.pointer (some ⟨H,0,none⟩),clV c] w fun e w'=>∃ (p1 p2:Int) (ow:ByteArray) (pu:Option Addr) (m cu:Nat),e=.returned (.tuple #[.agg #[.int .i64 p1,.int .i64 p2,.int .i64 ad,.string ow,.slice pu m cu],.int .i64 n,.nilIface]) /\ ∃ F',Ds T w' F' B (nxD d c)/\(∀ j,F' j->Nw F w w' j)/\But F w w'/\Hh w' H B M /\ ¬ F' H:=by
 refine (hlOnceOk V c h dp.ok (Nat.le_trans dp.wl hk) (by have:=dp.ids;omega) dp.spz hh nH g1 g2 g3).mono ?_
 rintro e w' ⟨u,rfl,row,rest⟩
 obtain⟨pu,cu,rfl⟩:=own_form row
 rw[gn,<- ga]
 exact⟨_,_,_,_,_,_,rfl,rest⟩
theorem topOne (V:DFace T) (en:En w) :
  Calls Tryz.prog 6 #[] w fun e w'=>e=.returned (.bool true)/\Below w.heap.size w w':=by
 have K0:=hlNew V 1000 en (by decide) (by decide)
 have da:=Dp.new (room:=1000) (by decide) (by decide)
 have db:=nx_dp ca da
 have dc:=nx_dp cc db
 have KA:=fun {w:World} {F:Nat->Prop} {B H M:Nat} (h:Ds T w F B (dk0 1000)) (hh:Hh w H B M) (nH:¬ F H)=>onceForm V ca _ _ h da (by decide) hh nH na.1 na.2.1 na.2.2 rfl rfl
 have KC:=fun {w:World} {F:Nat->Prop} {B H M:Nat} (h:Ds T w F B (nxD (dk0 1000) ca)) (hh:Hh w H B M) (nH:¬ F H)=>onceForm V cc _ _ h db (by decide) hh nH nc.1 nc.2.1 nc.2.2 rfl rfl
 have KE:=fun {w:World} {F:Nat->Prop} {B H M:Nat} (h:Ds T w F B (nxD (nxD (dk0 1000) ca) cc)) (hh:Hh w H B M) (nH:¬ F H)=>onceForm V ce _ _ h dc (by decide) hh nH nf.1 nf.2.1 nf.2.2.1 nf.2.2.2.2 nf.2.2.2.1
 generalize nxD (nxD (nxD (dk0 1000) ca) cc) ce=x3 at KE
 generalize nxD (nxD (dk0 1000) ca) cc=x2 at KE KC dc
 generalize nxD (dk0 1000) ca=x1 at KC KA db dc
 generalize (runA (doP cc) (bgD x1) (bgN x1)).ad=ad2 at KC
 generalize cmN (onX x1 cc) (bgN x1)=nn2 at KC
 generalize (runA (doP ca) (bgD (dk0 1000)) (bgN (dk0 1000))).ad=ad1 at KA
 generalize cmN (onX (dk0 1000) ca) (bgN (dk0 1000))=nn1 at KA
 generalize dk0 1000=x0 at K0 KA da
 have lower:∀ {wa wb:World} {F1 F2:Nat->Prop},(∀ j,F1 j->w.heap.size<=j)->w.heap.size<=wa.heap.size->(∀ j,F2 j->Nw F1 wa wb j) -> ∀ j,F2 j->w.heap.size<=j:=fun a b c j hj=>(c j hj).elim (a j) (fun g=>Nat.le_trans b g.1)
 have under:∀ {wa wb:World} {F1:Nat->Prop},Below w.heap.size w wa->But F1 wa wb->(∀ j,F1 j->w.heap.size<=j)->Below w.heap.size w wb:=fun a b c=>But.under2 a b a.size (fun i hi q=>by have:=c i q;omega)
 go_enter Tryz.func6,Tryz.ntmps6
 go_wp2_with (first
  | (go_at_call 7;refine K0.mono ?_;clear K0;rintro e w1 ⟨H,B,M,F1,rfl,h1,hh1,-,n1,-,-,l1,-,-,b1⟩)
  | (go_at_call 16;refine (KA h1 hh1 n1).mono ?_;clear KA;rintro e w2 ⟨p1,p2,ow,pu,m,cu,rfl,F2,h2,nx2,bt2,hh2,n2⟩;have l2:=lower l1 b1.size nx2;have b2:=under b1 bt2 l1;clear h1 hh1 n1 l1 b1 bt2 nx2)
  | (go_at_call 16;refine (KC (h2.step V (below_al (below_self w2) _)) (hh2.step (below_al (below_self w2) _)) n2).mono ?_;clear KC;rintro e w3 ⟨p1',p2',ow',pu',m',cu',rfl,F3,h3,nx3,bt3,hh3,n3⟩;have l3:=lower l2 (below_via b2 (below_al (below_self w2) _)).size nx3;have b3:=under (below_via b2 (below_al (below_self w2) _)) bt3 l2;clear h2 hh2 n2 l2 b2 bt3 nx3)
  | (go_at_call 16;refine (KE (h3.step V (below_al (below_self w3) _)) (hh3.step (below_al (below_self w3) _)) n3).mono ?_;clear KE;rintro e w4 ⟨p1'',p2'',ow'',pu'',m'',cu'',rfl,F4,h4,nx4,bt4,hh4,n4⟩;have b4:=under (below_via b3 (below_al (below_self w3) _)) bt4 l3;clear h3 hh3 n3 l3 b3 bt4 nx4))
 exact bodyPost_ret (v:=.bool true) (by simp[results,Tryz.results6,go_sem]) rfl ⟨rfl,by repeat (first|exact b4|exact below_via b4 (below_al (below_self w4) _)|exact (below_via b4 (below_al (below_self w4) _)).drew)⟩
end
end Go.Proofs.YtmghmpclmphccaaGreatDoor.Pa
