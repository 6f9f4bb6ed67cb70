/- -/
import Derived.Test.YtcjdoeclblhaeaaGreatDoorRPlF
import Derived.Test.YtcjdoeclblhaeaaGreatDoorRSpWalkA
set_option maxHeartbeats 8000000
set_option maxRecDepth 100000
namespace Vs
theorem dgS_err {d:Dk} {i:Int} {k:ByteArray} (h:dgF d i k≠0):dgS d i k=ByteArray.empty:=by
 unfold dgF at h
 unfold dgS
 cases e:opI d i with
 | none=>rfl
 | some o=>
  rw[e] at h
  simp only at h ⊢
  split
  ·rename_i g1
   rw[if_pos g1] at h
   split
   ·rfl
   ·rename_i g2
    rw[if_neg g2] at h
    cases e2:seeO d.vs o.sees o.own k with
    | none=>rfl
    | some v=>rw[e2] at h;exact absurd rfl h
  ·rfl
end Vs
namespace Go.Proofs.YtcjdoeclblhaeaaGreatDoor.Pa
open Go.RowKit Go.Maps Vs
section
variable {T:Td} {w:World} {F:Nat->Prop} {B:Nat} {d:Dk}
theorem fnS_err {i:Int} {k:ByteArray} (h:dgF d i k≠0):fnS d i k=ByteArray.empty:=by
 unfold fnS
 split
 ·rfl
 ·exact dgS_err h
theorem plWho (V:DFace T) (c:Cl) (i:Int) (h:Ds T w F B d) (ok:OkD d) (sm:Sm d) (hn:c.nm.size<=1000) (q0:0<=c.ad) (q1:c.ad<=4294967295) :
  Calls Tryz.prog 172 #[wkV B c i] w fun e w'=>e=.returned (.tuple #[.string (runA (pWho c) d i).ow,ev (runF (pWho c) d i)])/\Dj T F w w' B (runD (pWho c) d i):=by
 obtain⟨W,hW⟩:∃ W,W=w.alloc (.cells (wkA B c i) 188):=⟨_,rfl⟩
 have bW:Below w.heap.size w W:=by rw[hW];exact below_al (below_self w) _
 have wkW:Wk W w.heap.size B c i:=by rw[hW];exact Wk.new w B c i 188
 have hW1:=h.step V bW
 have KK:=plAddrKey c.nm c.ad W.drew (hW1.en.step (below_self W).drew).tab hn q0 q1
 have hkk:(⟨(Bur.adrK c.nm.data.toList c.ad).toArray⟩:ByteArray)=kA c.nm c.ad:=rfl
 rw[hkk] at KK
 have hks:(kA c.nm c.ad).size<=maxLen:=by rw[kA_size];unfold maxLen;omega
 have KF:=fun w3 (b3:Below W.drew.heap.size W.drew w3)=>plFind V c i (kA c.nm c.ad) (hW1.step V (below_via (below_self W).drew b3)) ok sm hks
 have base:∀ w3,Below W.drew.heap.size W.drew w3 -> ∀ {w4 d'},Dj T F w3 w4 B d'->Dj T F w w4 B d':=fun w3 b3 _ _ k=>Dj.then (F1:=F) (.below (below_via bW (below_via (below_self W).drew b3))) (fun _ hj=>.inl hj) k
 have hbx:¬ F w.heap.size:=fun q=>by have:=h.lt _ q;omega
 have hlb0:w.heap.size<W.heap.size:=wkW.lt
 obtain⟨bb,hbb⟩:∃ bb,bb=w.heap.size:=⟨_,rfl⟩
 rw[<- hbb] at wkW hbx hlb0
 have okg:=ok.dg i (kA c.nm c.ad)
 have smg:=Sm.dg sm ok i (kA c.nm c.ad)
 have fx:=find_cases (d:=d) i (kA c.nm c.ad)
 let KC:ByteArray->Bool->Pg:=fun v is=>if is=true then .ret ⟨(0,0),0,v,[]⟩ 0 else allL c.nm fun l=>match (hav l c.ad).getLast? with
  | none=>err 4
  | some o=>.ret ⟨(0,0),0,o.2,[]⟩ 0
 have ano:=asks_no (d:=d) (i:=i) (k:=kA c.nm c.ad) (K:=KC)
 have ayes:=asks_yes (d:=d) (i:=i) (k:=kA c.nm c.ad) (K:=KC)
 have aerr:=asks_err (d:=d) (i:=i) (k:=kA c.nm c.ad) (K:=KC)
 clear hkk hW1
 rcases fx with ⟨f1,f2,f3,f4⟩|⟨f1,f2,f3,f4⟩|⟨f0,f1,f2,f3⟩
 ·obtain⟨a1,a2,a3⟩:=ano f1
  rw[f2,f3,f4,ev_0] at KF
  clear ano ayes aerr f1 f2 f3 f4
  generalize dgD d i (kA c.nm c.ad)=d1 at KF okg smg a1 a2 a3
  have KL:=fun w4 F4 (h4:Ds T w4 F4 B d1)=>plLots V c i h4 okg smg hn
  have hdl:=drS_len okg i (loK 112 c.nm) (heK 112 c.nm)
  have hwt:=smg.wt
  have hll:=lots_len (drS d1 i (loK 112 c.nm) (heK 112 c.nm))
  by_cases h0:drF d1 i=0
  ·obtain⟨l1,l2,l3⟩:=allL_yes (d:=d1) (i:=i) (n:=c.nm) (K:=fun l=>match (hav l c.ad).getLast? with
    | none=>err 4
    | some o=>.ret ⟨(0,0),0,o.2,[]⟩ 0) h0
   rw[h0,ev_0] at KL
   generalize drD d1 i (loK 112 c.nm) (heK 112 c.nm)=d2 at KL l1 l2 l3
   generalize lots (drS d1 i (loK 112 c.nm) (heK 112 c.nm))=LL at KL l1 l2 l3 hll
   have KH:=fun p cp w4 (hp:LotAt w4 p LL)=>plHaving LL c.ad p cp w4 (by omega) hp
   have A1:Hid (runF (pWho c) d i=_):=a1.trans l1
   have A2:Hid (runD (pWho c) d i=_):=a2.trans l2
   have A3:Hid (runA (pWho c) d i=_):=a3.trans l3
   clear a1 a2 a3 l1 l2 l3 h0
   have hhl:(hav LL c.ad).length<=LL.length:=List.length_filter_le _ _
   generalize hav LL c.ad=HH at KH A1 A2 A3 hhl
   cases hg:HH.getLast? with
   | none=>
    have hnil:HH=[]:=List.getLast?_eq_none_iff.1 hg
    have E1:Hid (runF (pWho c) d i=4):=by show _=_;rw[A1.out,hg];rfl
    have E2:Hid (runD (pWho c) d i=d2):=by show _=_;rw[A2.out,hg];rfl
    have E3:Hid ((runA (pWho c) d i).ow=ByteArray.empty):=by show _=_;rw[A3.out,hg];rfl
    subst hnil
    clear A1 A2 A3 hg
    go_enter Tryz.func172,Tryz.ntmps172
    go_wp2_with fail
    rw[<- hW,<- hbb]
    clear hW hbb
    go_region_held3 (fun wy=>wy.cell? ⟨bb,0,none⟩=some (.pointer (some ⟨B,0,none⟩))/\wy.cell? ⟨bb,1,none⟩=some (.int .i64 c.what)/\wy.cell? ⟨bb,2,none⟩=some (.string c.nm)/\wy.cell? ⟨bb,3,none⟩=some (.int .i64 c.p.1)/\wy.cell? ⟨bb,4,none⟩=some (.int .i64 c.p.2)/\wy.cell? ⟨bb,5,none⟩=some (.int .i64 c.len)/\wy.cell? ⟨bb,6,none⟩=some (.int .i64 c.ad)/\wy.cell? ⟨bb,7,none⟩=some (.string c.ow)/\wy.cell? ⟨bb,8,none⟩=some (.int .i64 i))
     (first|exact⟨wk4.c0,wk4.c1,wk4.c2,wk4.c3,wk4.c4,wk4.c5,wk4.c6,wk4.c7,wk4.c8⟩|exact⟨wk3.c0,wk3.c1,wk3.c2,wk3.c3,wk3.c4,wk3.c5,wk3.c6,wk3.c7,wk3.c8⟩|exact⟨wkW.c0,wkW.c1,wkW.c2,wkW.c3,wkW.c4,wkW.c5,wkW.c6,wkW.c7,wkW.c8⟩)
     (first
      | (go_at_call 215;refine KK.mono ?_;clear KK;rintro e w3 ⟨rfl,hb3⟩;have wk3:Wk w3 bb B c i:=wkW.step (below_via (below_self W).drew hb3);have KF1:=KF w3 hb3)
      | (go_at_call 163;refine KF1.mono ?_;clear KF1;rintro e w4 ⟨rfl,hj4⟩;have wk4:Wk w4 bb B c i:=wk3.but hj4.bt hbx))
    have dj4:=base w3 hb3 hj4
    obtain⟨F4,h4,hF4,nx4⟩:=Dj.next hj4;have hl3:=wk3.lt
    have KL1:=KL w4 F4 h4
    have hx4:¬ F4 bb:=fun q=>(hF4 _ q).elim hbx (fun g=>by have:=g.1;omega)
    obtain⟨m0,m1,m2,m3,m4,m5,m6,m7,m8⟩:=wk4
    have wk4:Wk w4 bb B c i:=⟨m0,m1,m2,m3,m4,m5,m6,m7,m8⟩
    go_wp2_with (first
     | (go_at_call 207;refine KL1.mono ?_;clear KL1;rintro e w5 ⟨v,rfl,F5,h5,hF5,hb5,hrow,hsep⟩;have n6:=(wk4.but hb5 hx4).c6;obtain⟨p,cp,rfl,hlot⟩:=lot_own hrow;have KH1:=KH p cp w5 hlot)
     | (go_at_call 210;refine KH1.mono ?_;clear KH1;rintro e w6 ⟨u,rfl,hu,hb6⟩;obtain⟨pu,cu,rfl,_⟩:=lot_own (l:=[]) hu))
    go_ret2
    exact⟨by rw[E1.out,E3.out];rfl,by rw[E2.out];exact base w3 hb3 (nx4 _ _ ((Dj.mk ⟨F5,h5,hF5⟩ hb5).step V hb6))⟩
   | some o=>
    have E1:Hid (runF (pWho c) d i=0):=by show _=_;rw[A1.out,hg];rfl
    have E2:Hid (runD (pWho c) d i=d2):=by show _=_;rw[A2.out,hg];rfl
    have E3:Hid ((runA (pWho c) d i).ow=o.2):=by show _=_;rw[A3.out,hg];rfl
    have hpos:0<HH.length:=by
     cases HH with
     | nil=>simp at hg
     | cons x r=>simp
    have hlast:HH[HH.length - 1]? = some o:=by rw[<- List.getLast?_eq_getElem?];exact hg
    have hz1:((HH.length:Int)==0)=false:=beq_eq_false_iff_ne.2 (by omega)
    clear A1 A2 A3 hg
    go_enter Tryz.func172,Tryz.ntmps172
    go_wp2_with fail
    rw[<- hW,<- hbb]
    clear hW hbb
    go_region_held3 (fun wy=>wy.cell? ⟨bb,0,none⟩=some (.pointer (some ⟨B,0,none⟩))/\wy.cell? ⟨bb,1,none⟩=some (.int .i64 c.what)/\wy.cell? ⟨bb,2,none⟩=some (.string c.nm)/\wy.cell? ⟨bb,3,none⟩=some (.int .i64 c.p.1)/\wy.cell? ⟨bb,4,none⟩=some (.int .i64 c.p.2)/\wy.cell? ⟨bb,5,none⟩=some (.int .i64 c.len)/\wy.cell? ⟨bb,6,none⟩=some (.int .i64 c.ad)/\wy.cell? ⟨bb,7,none⟩=some (.string c.ow)/\wy.cell? ⟨bb,8,none⟩=some (.int .i64 i))
     (first|exact⟨wk4.c0,wk4.c1,wk4.c2,wk4.c3,wk4.c4,wk4.c5,wk4.c6,wk4.c7,wk4.c8⟩|exact⟨wk3.c0,wk3.c1,wk3.c2,wk3.c3,wk3.c4,wk3.c5,wk3.c6,wk3.c7,wk3.c8⟩|exact⟨wkW.c0,wkW.c1,wkW.c2,wkW.c3,wkW.c4,wkW.c5,wkW.c6,wkW.c7,wkW.c8⟩)
     (first
      | (go_at_call 215;refine KK.mono ?_;clear KK;rintro e w3 ⟨rfl,hb3⟩;have wk3:Wk w3 bb B c i:=wkW.step (below_via (below_self W).drew hb3);have KF1:=KF w3 hb3)
      | (go_at_call 163;refine KF1.mono ?_;clear KF1;rintro e w4 ⟨rfl,hj4⟩;have wk4:Wk w4 bb B c i:=wk3.but hj4.bt hbx))
    have dj4:=base w3 hb3 hj4
    obtain⟨F4,h4,hF4,nx4⟩:=Dj.next hj4;have hl3:=wk3.lt
    have KL1:=KL w4 F4 h4
    have hx4:¬ F4 bb:=fun q=>(hF4 _ q).elim hbx (fun g=>by have:=g.1;omega)
    obtain⟨m0,m1,m2,m3,m4,m5,m6,m7,m8⟩:=wk4
    have wk4:Wk w4 bb B c i:=⟨m0,m1,m2,m3,m4,m5,m6,m7,m8⟩
    obtain⟨L1,hL1⟩:∃ L1:Nat,HH.length=L1+1:=⟨HH.length - 1,by omega⟩
    have hL2:HH.length - 1=L1:=by omega
    rw[hL2] at hlast
    have HLst:Hid _:=hlast
    clear hlast
    have hL3:(L1:Int)<=9223372036854775807:=by omega
    have hL4:(0:Int)<=(L1:Int):=by omega
    go_wp2_with (first
     | (go_at_call 207;refine KL1.mono ?_;clear KL1;rintro e w5 ⟨v,rfl,F5,h5,hF5,hb5,hrow,hsep⟩;have n6:=(wk4.but hb5 hx4).c6;obtain⟨p,cp,rfl,hlot⟩:=lot_own hrow;have KH1:=KH p cp w5 hlot)
     | (go_at_call 210;refine KH1.mono ?_;clear KH1;rintro e w6 ⟨u,rfl,hu,hb6⟩;obtain⟨pu,cu,rfl,hlu⟩:=lot_own hu;obtain⟨bu,ou,rfl,hbu,hcu⟩:=hlu hpos;obtain⟨_,_,z2⟩:=hcu L1 o HLst.out;clear hcu;rw[hL1]))
    go_ret2
    exact⟨by rw[E1.out,E3.out];rfl,by rw[E2.out];exact base w3 hb3 (nx4 _ _ ((Dj.mk ⟨F5,h5,hF5⟩ hb5).step V hb6))⟩
  ·obtain⟨l1,l2,l3⟩:=allL_no (d:=d1) (i:=i) (n:=c.nm) (K:=fun l=>match (hav l c.ad).getLast? with
    | none=>err 4
    | some o=>.ret ⟨(0,0),0,o.2,[]⟩ 0) h0
   have E1:Hid (ev (runF (pWho c) d i)=errN (drF d1 i)):=(congrArg ev (a1.trans l1)).trans (ev_ne h0)
   have E2:Hid (runD (pWho c) d i=drD d1 i (loK 112 c.nm) (heK 112 c.nm)):=a2.trans l2
   have E3:Hid ((runA (pWho c) d i).ow=ByteArray.empty):=congrArg An.ow (a3.trans l3)
   rw[ev_ne h0] at KL
   clear a1 a2 a3 l1 l2 l3 h0
   go_enter Tryz.func172,Tryz.ntmps172
   go_wp2_with fail
   rw[<- hW,<- hbb]
   clear hW hbb
   go_region_held3 (fun wy=>wy.cell? ⟨bb,0,none⟩=some (.pointer (some ⟨B,0,none⟩))/\wy.cell? ⟨bb,1,none⟩=some (.int .i64 c.what)/\wy.cell? ⟨bb,2,none⟩=some (.string c.nm)/\wy.cell? ⟨bb,3,none⟩=some (.int .i64 c.p.1)/\wy.cell? ⟨bb,4,none⟩=some (.int .i64 c.p.2)/\wy.cell? ⟨bb,5,none⟩=some (.int .i64 c.len)/\wy.cell? ⟨bb,6,none⟩=some (.int .i64 c.ad)/\wy.cell? ⟨bb,7,none⟩=some (.string c.ow)/\wy.cell? ⟨bb,8,none⟩=some (.int .i64 i))
    (first|exact⟨wk4.c0,wk4.c1,wk4.c2,wk4.c3,wk4.c4,wk4.c5,wk4.c6,wk4.c7,wk4.c8⟩|exact⟨wk3.c0,wk3.c1,wk3.c2,wk3.c3,wk3.c4,wk3.c5,wk3.c6,wk3.c7,wk3.c8⟩|exact⟨wkW.c0,wkW.c1,wkW.c2,wkW.c3,wkW.c4,wkW.c5,wkW.c6,wkW.c7,wkW.c8⟩)
    (first
     | (go_at_call 215;refine KK.mono ?_;clear KK;rintro e w3 ⟨rfl,hb3⟩;have wk3:Wk w3 bb B c i:=wkW.step (below_via (below_self W).drew hb3);have KF1:=KF w3 hb3)
     | (go_at_call 163;refine KF1.mono ?_;clear KF1;rintro e w4 ⟨rfl,hj4⟩;have wk4:Wk w4 bb B c i:=wk3.but hj4.bt hbx))
   have dj4:=base w3 hb3 hj4
   obtain⟨F4,h4,hF4,nx4⟩:=Dj.next hj4;have hl3:=wk3.lt
   have KL1:=KL w4 F4 h4
   obtain⟨m0,m1,m2,m3,m4,m5,m6,m7,m8⟩:=wk4
   go_wp2_with (go_at_call 207;refine KL1.mono ?_;clear KL1;rintro e w5 ⟨v,rfl,F5,h5,hF5,hb5,hrow,hsep⟩)
   go_ret2
   exact⟨by rw[E1.out,E3.out];rfl,by rw[E2.out];exact base w3 hb3 (nx4 _ _ (Dj.mk ⟨F5,h5,hF5⟩ hb5))⟩
 ·obtain⟨a1,a2,a3⟩:=ayes f1
  have E1:Hid (runF (pWho c) d i=0):=a1
  have E2:Hid (runD (pWho c) d i=dgD d i (kA c.nm c.ad)):=a2
  have E3:Hid ((runA (pWho c) d i).ow=dgS d i (kA c.nm c.ad)):=congrArg An.ow a3
  rw[f2,f3,f4,ev_0] at KF
  clear a1 a2 a3 ano ayes aerr f1 f2 f3 f4
  go_enter Tryz.func172,Tryz.ntmps172
  go_wp2_with fail
  rw[<- hW,<- hbb]
  clear hW hbb
  go_region_held3 (fun wy=>wy.cell? ⟨bb,0,none⟩=some (.pointer (some ⟨B,0,none⟩))/\wy.cell? ⟨bb,1,none⟩=some (.int .i64 c.what)/\wy.cell? ⟨bb,2,none⟩=some (.string c.nm)/\wy.cell? ⟨bb,3,none⟩=some (.int .i64 c.p.1)/\wy.cell? ⟨bb,4,none⟩=some (.int .i64 c.p.2)/\wy.cell? ⟨bb,5,none⟩=some (.int .i64 c.len)/\wy.cell? ⟨bb,6,none⟩=some (.int .i64 c.ad)/\wy.cell? ⟨bb,7,none⟩=some (.string c.ow)/\wy.cell? ⟨bb,8,none⟩=some (.int .i64 i))
   (first|exact⟨wk4.c0,wk4.c1,wk4.c2,wk4.c3,wk4.c4,wk4.c5,wk4.c6,wk4.c7,wk4.c8⟩|exact⟨wk3.c0,wk3.c1,wk3.c2,wk3.c3,wk3.c4,wk3.c5,wk3.c6,wk3.c7,wk3.c8⟩|exact⟨wkW.c0,wkW.c1,wkW.c2,wkW.c3,wkW.c4,wkW.c5,wkW.c6,wkW.c7,wkW.c8⟩)
   (first
    | (go_at_call 215;refine KK.mono ?_;clear KK;rintro e w3 ⟨rfl,hb3⟩;have wk3:Wk w3 bb B c i:=wkW.step (below_via (below_self W).drew hb3);have KF1:=KF w3 hb3)
    | (go_at_call 163;refine KF1.mono ?_;clear KF1;rintro e w4 ⟨rfl,hj4⟩;have wk4:Wk w4 bb B c i:=wk3.but hj4.bt hbx))
  have dj4:=base w3 hb3 hj4
  go_wp2_with fail
  go_ret2
  exact⟨by rw[E1.out,E3.out];rfl,by rw[E2.out];exact dj4⟩
 ·obtain⟨a1,a2,a3⟩:=aerr f0 f1
  have E1:Hid (ev (runF (pWho c) d i)=errN (dgF d i (kA c.nm c.ad))):=(congrArg ev a1).trans (ev_ne f1)
  have E2:Hid (runD (pWho c) d i=dgD d i (kA c.nm c.ad)):=a2
  have E3:Hid ((runA (pWho c) d i).ow=ByteArray.empty):=congrArg An.ow a3
  rw[f2,f3,ev_ne f1,fnS_err f1] at KF
  clear a1 a2 a3 ano ayes aerr f0 f1 f2 f3
  go_enter Tryz.func172,Tryz.ntmps172
  go_wp2_with fail
  rw[<- hW,<- hbb]
  clear hW hbb
  go_region_held3 (fun wy=>wy.cell? ⟨bb,0,none⟩=some (.pointer (some ⟨B,0,none⟩))/\wy.cell? ⟨bb,1,none⟩=some (.int .i64 c.what)/\wy.cell? ⟨bb,2,none⟩=some (.string c.nm)/\wy.cell? ⟨bb,3,none⟩=some (.int .i64 c.p.1)/\wy.cell? ⟨bb,4,none⟩=some (.int .i64 c.p.2)/\wy.cell? ⟨bb,5,none⟩=some (.int .i64 c.len)/\wy.cell? ⟨bb,6,none⟩=some (.int .i64 c.ad)/\wy.cell? ⟨bb,7,none⟩=some (.string c.ow)/\wy.cell? ⟨bb,8,none⟩=some (.int .i64 i))
   (first|exact⟨wk4.c0,wk4.c1,wk4.c2,wk4.c3,wk4.c4,wk4.c5,wk4.c6,wk4.c7,wk4.c8⟩|exact⟨wk3.c0,wk3.c1,wk3.c2,wk3.c3,wk3.c4,wk3.c5,wk3.c6,wk3.c7,wk3.c8⟩|exact⟨wkW.c0,wkW.c1,wkW.c2,wkW.c3,wkW.c4,wkW.c5,wkW.c6,wkW.c7,wkW.c8⟩)
   (first
    | (go_at_call 215;refine KK.mono ?_;clear KK;rintro e w3 ⟨rfl,hb3⟩;have wk3:Wk w3 bb B c i:=wkW.step (below_via (below_self W).drew hb3);have KF1:=KF w3 hb3)
    | (go_at_call 163;refine KF1.mono ?_;clear KF1;rintro e w4 ⟨rfl,hj4⟩;have wk4:Wk w4 bb B c i:=wk3.but hj4.bt hbx))
  have dj4:=base w3 hb3 hj4
  go_wp2_with fail
  go_ret2
  exact⟨by rw[E1.out,E3.out];rfl,by rw[E2.out];exact dj4⟩
end
end Go.Proofs.YtcjdoeclblhaeaaGreatDoor.Pa
namespace Vs
def lwL (d:Dk) (i:Int) (c:Cl):List Lot:=lots (drS d i (loK 112 c.nm) (heK 112 c.nm))
def lwF (d:Dk) (i:Int) (c:Cl):Int:=if drF d i=0 then (if c.p∈(lwL d i c).map Prod.fst then 0 else 4) else drF d i
theorem allW_is {d:Dk} {i:Int} {c:Cl} {K:List Lot->Pg}:(lwF d i c=0->runF (allW c K) d i=runF (K (lwL d i c)) (drD d i (loK 112 c.nm) (heK 112 c.nm)) i/\runD (allW c K) d i=runD (K (lwL d i c)) (drD d i (loK 112 c.nm) (heK 112 c.nm)) i/\runA (allW c K) d i=runA (K (lwL d i c)) (drD d i (loK 112 c.nm) (heK 112 c.nm)) i)/\(lwF d i c≠0->runF (allW c K) d i=lwF d i c/\runD (allW c K) d i=drD d i (loK 112 c.nm) (heK 112 c.nm)/\runA (allW c K) d i=an0):=by
 by_cases h0:drF d i=0
 ·obtain⟨a1,a2,a3⟩:=allL_yes (d:=d) (i:=i) (n:=c.nm) (K:=fun l=>if c.p∈l.map Prod.fst then K l else err 4) h0
  have b1:runF (allW c K) d i=_:=a1
  have b2:runD (allW c K) d i=_:=a2
  have b3:runA (allW c K) d i=_:=a3
  by_cases hm:c.p∈(lwL d i c).map Prod.fst
  ·have e:lwF d i c=0:=by rw[lwF,if_pos h0,if_pos hm]
   have hm':c.p∈(lots (drS d i (loK 112 c.nm) (heK 112 c.nm))).map Prod.fst:=hm
   rw[if_pos hm'] at b1 b2 b3
   exact⟨fun _=>⟨b1,b2,b3⟩,fun q=>absurd e q⟩
  ·have e:lwF d i c=4:=by rw[lwF,if_pos h0,if_neg hm]
   have hm':¬ c.p∈(lots (drS d i (loK 112 c.nm) (heK 112 c.nm))).map Prod.fst:=hm
   rw[if_neg hm'] at b1 b2 b3
   exact⟨(fun q=>by rw[e] at q;cases q),fun _=>⟨by rw[e];exact b1,b2,b3⟩⟩
 ·obtain⟨a1,a2,a3⟩:=allL_no (d:=d) (i:=i) (n:=c.nm) (K:=fun l=>if c.p∈l.map Prod.fst then K l else err 4) h0
  have e:lwF d i c=drF d i:=if_neg h0
  exact⟨fun q=>absurd (e.symm.trans q) h0,fun _=>⟨by rw[e];exact a1,a2,a3⟩⟩
end Vs
namespace Go.Proofs.YtcjdoeclblhaeaaGreatDoor.Pa
open Go.RowKit Go.Maps Vs
theorem pfA_sp {w:World} {p:Option Addr} {l:List Bur.Sp} (h:PfA w p l):Ta.SpAt w p l:=fun hl=>by
 obtain⟨b,off,rfl,hlt,hc⟩:=h hl
 refine⟨b,off,rfl,hlt,fun i hi=>?_⟩
 obtain⟨a1,a2⟩:=hc i l[i] (List.getElem?_eq_getElem hi)
 have e:l.getD i (0,0)=l[i]:=by simp[List.getD,List.getElem?_eq_getElem hi]
 show w.cell? _=some (.int .i64 (l.getD i (0,0)).1)/\w.cell? _=some (.int .i64 (l.getD i (0,0)).2)
 rw[e]
 exact⟨a1,a2⟩
theorem hasP_mem (p:Bur.Sp) (l:List Bur.Sp):Bur.hasP p l=decide (p∈l):=by
 unfold Bur.hasP
 by_cases h:p∈l
 ·rw[decide_eq_true h]
  exact List.any_eq_true.2 ⟨p,h,Bur.sm_self p⟩
 ·rw[decide_eq_false h,List.any_eq_false]
  intro q hq e
  exact h (by rw[<- (Bur.sm_iff q p).1 e];exact hq)
section
variable {T:Td} {w:World} {F:Nat->Prop} {B:Nat} {d:Dk}
theorem plWith (V:DFace T) (c:Cl) (i:Int) (h:Ds T w F B d) (ok:OkD d) (sm:Sm d) (hn:c.nm.size<=1000) :
  Calls Tryz.prog 217 #[wkV B c i] w fun e w'=>∃ v,e=.returned (.tuple #[v,ev (lwF d i c)]) /\ ∃ F',Ds T w' F' B (drD d i (loK 112 c.nm) (heK 112 c.nm))/\(∀ j,F' j->Nw F w w' j)/\But F w w'/\(lwF d i c=0->w'.ownsRow w.heap.size 302 3 v (lwL d i c).length (lotV (lwL d i c)) /\ ∀ j,v.ownBlock=some j -> ¬ F' j):=by
 obtain⟨W,hW⟩:∃ W,W=w.alloc (.cells (wkA B c i) 188):=⟨_,rfl⟩
 have bW:Below w.heap.size w W:=by rw[hW];exact below_al (below_self w) _
 have wkW:Wk W w.heap.size B c i:=by rw[hW];exact Wk.new w B c i 188
 have wk:Wk (w.alloc (.cells (wkA B c i) 188)) w.heap.size B c i:=Wk.new w B c i 188
 have hW1:=h.step V bW
 have KL:=plLots V c i hW1 ok sm hn
 obtain⟨k0,k1,k2,k3,k4,k5,k6,k7,k8⟩:=wk
 have hdl:=drS_len ok i (loK 112 c.nm) (heK 112 c.nm)
 have hwt:=sm.wt
 have hll:(lwL d i c).length<=_:=lots_len (drS d i (loK 112 c.nm) (heK 112 c.nm))
 have sW:=bW.size
 have hbx:¬ F w.heap.size:=fun q=>by have:=h.lt _ q;omega
 have fin:∀ w1 F1 w2,Ds T w1 F1 B (drD d i (loK 112 c.nm) (heK 112 c.nm))->(∀ j,F1 j->Nw F W w1 j)->But F W w1->Below w1.heap.size w1 w2->Ds T w2 F1 B (drD d i (loK 112 c.nm) (heK 112 c.nm))/\(∀ j,F1 j->Nw F w w2 j)/\But F w w2:=fun w1 F1 w2 h1 hF1 hb1 hb2=>by
  have s1:=hb1.size
  have s2:=hb2.size
  exact⟨h1.step V hb2,fun j hj=>(hF1 j hj).elim .inl (fun g=>.inr ⟨by have:=g.1;omega,by have:=g.2;omega⟩),((But.below bW:But F w W).trans hb1).step hb2⟩
 have FH:Hid _:=fin
 by_cases h0:drF d i=0
 ·rw[h0,ev_0] at KL
  change Calls _ _ _ _ fun e w'=>∃ v,_ /\ ∃ F',_/\_/\_/\w'.ownsRow _ _ _ v (lwL d i c).length (lotV (lwL d i c))/\_ at KL
  have hF:lwF d i c=if c.p∈(lwL d i c).map Prod.fst then 0 else 4:=if_pos h0
  have KC:=fun p cp w1 (hp:Ta.SpAt w1 p ((lwL d i c).map Prod.fst))=>Ta.containsP c.p p cp ((lwL d i c).map Prod.fst) w1 (by rw[List.length_map];omega) hp
  rw[hasP_mem] at KC
  generalize drD d i (loK 112 c.nm) (heK 112 c.nm)=d1 at KL FH ⊢
  generalize lwL d i c=LL at KL hF KC hll ⊢
  have KO:=fun p cp w1 (hp:LotAt w1 p LL)=>plOfLots LL p cp w1 (by omega) hp
  clear h0 fin hW1
  by_cases hm:c.p∈LL.map Prod.fst
  ·rw[decide_eq_true hm] at KC
   rw[if_pos hm] at hF
   have HF:Hid _:=hF
   clear hm hF
   go_enter Tryz.func217,Tryz.ntmps217
   go_wp2_with (go_at_call 207;rw[<- hW];refine KL.mono ?_;clear KL;rintro e w1 ⟨v,rfl,F1,h1,hF1,hb1,hrow,hsep⟩;have wk1:Wk w1 w.heap.size B c i:=wkW.but hb1 hbx;obtain⟨p,cp,rfl,hlot⟩:=lot_own hrow;have KO1:=KO p cp w1.drew (hlot.step (below_self w1).drew);have hl1:=wk1.lt)
   have n3:=wk1.c3
   have n4:=wk1.c4
   go_region_held3 (fun wy=>wy.cell? ⟨w.heap.size,3,none⟩=some (.int .i64 c.p.1)/\wy.cell? ⟨w.heap.size,4,none⟩=some (.int .i64 c.p.2))
    (first|exact⟨t3,t4⟩|exact⟨s3,s4⟩|exact⟨n3,n4⟩)
    (first
     | (go_at_call 220;refine KO1.mono ?_;clear KO1;rintro e w3 ⟨u,rfl,hu,hb3⟩;have s3:=(hb3.cell (p:=⟨w.heap.size,3,none⟩) hl1).trans n3;have s4:=(hb3.cell (p:=⟨w.heap.size,4,none⟩) hl1).trans n4;have hl3:w.heap.size<w3.heap.size:=Nat.lt_of_lt_of_le hl1 hb3.size;obtain⟨pu,cu,rfl⟩:=own_form hu;have hpu:=(pfA_own (l:=LL.map Prod.fst) (by rw[List.length_map];exact hu)).2;have KC1:=KC pu cu w3 (pfA_sp hpu);rw[List.length_map] at KC1)
     | (go_at_call 262;refine KC1.mono ?_;clear KC1;rintro e w4 ⟨rfl,hb4⟩;have t3:=(hb4.cell (p:=⟨w.heap.size,3,none⟩) hl3).trans s3;have t4:=(hb4.cell (p:=⟨w.heap.size,4,none⟩) hl3).trans s4))
   have b14:Below w1.heap.size w1 w4:=below_via (below_via (below_self w1).drew hb3) hb4
   clear n3 n4 s3 s4 t3 t4
   go_wp2_with fail
   go_ret2
   obtain⟨r1,r2,r3⟩:=FH.out w1 F1 w4 h1 hF1 hb1 b14
   refine⟨_,by rw[HF.out,ev_0];rfl,F1,r1,r2,r3,fun _=>⟨ownMono (by omega) (rowStep hrow b14),hsep⟩⟩
  ·rw[decide_eq_false hm] at KC
   rw[if_neg hm] at hF
   have HF:Hid _:=hF
   clear hm hF
   go_enter Tryz.func217,Tryz.ntmps217
   go_wp2_with (go_at_call 207;rw[<- hW];refine KL.mono ?_;clear KL;rintro e w1 ⟨v,rfl,F1,h1,hF1,hb1,hrow,hsep⟩;have wk1:Wk w1 w.heap.size B c i:=wkW.but hb1 hbx;obtain⟨p,cp,rfl,hlot⟩:=lot_own hrow;have KO1:=KO p cp w1.drew (hlot.step (below_self w1).drew);have hl1:=wk1.lt)
   have n3:=wk1.c3
   have n4:=wk1.c4
   go_region_held3 (fun wy=>wy.cell? ⟨w.heap.size,3,none⟩=some (.int .i64 c.p.1)/\wy.cell? ⟨w.heap.size,4,none⟩=some (.int .i64 c.p.2))
    (first|exact⟨t3,t4⟩|exact⟨s3,s4⟩|exact⟨n3,n4⟩)
    (first
     | (go_at_call 220;refine KO1.mono ?_;clear KO1;rintro e w3 ⟨u,rfl,hu,hb3⟩;have s3:=(hb3.cell (p:=⟨w.heap.size,3,none⟩) hl1).trans n3;have s4:=(hb3.cell (p:=⟨w.heap.size,4,none⟩) hl1).trans n4;have hl3:w.heap.size<w3.heap.size:=Nat.lt_of_lt_of_le hl1 hb3.size;obtain⟨pu,cu,rfl⟩:=own_form hu;have hpu:=(pfA_own (l:=LL.map Prod.fst) (by rw[List.length_map];exact hu)).2;have KC1:=KC pu cu w3 (pfA_sp hpu);rw[List.length_map] at KC1)
     | (go_at_call 262;refine KC1.mono ?_;clear KC1;rintro e w4 ⟨rfl,hb4⟩;have t3:=(hb4.cell (p:=⟨w.heap.size,3,none⟩) hl3).trans s3;have t4:=(hb4.cell (p:=⟨w.heap.size,4,none⟩) hl3).trans s4))
   have b14:Below w1.heap.size w1 w4:=below_via (below_via (below_self w1).drew hb3) hb4
   clear n3 n4 s3 s4 t3 t4
   go_wp2_with fail
   go_ret2
   obtain⟨r1,r2,r3⟩:=FH.out w1 F1 w4 h1 hF1 hb1 b14
   exact⟨.slice none 0 0,by rw[HF.out];rfl,F1,r1,r2,r3,fun q=>by rw[HF.out] at q;cases q⟩
 ·have hF:lwF d i c=drF d i:=if_neg h0
  have HF:Hid _:=hF
  have H0:Hid _:=h0
  rw[ev_ne h0] at KL
  clear h0 fin hW1 hF
  go_enter Tryz.func217,Tryz.ntmps217
  go_wp2_with (go_at_call 207;rw[<- hW];refine KL.mono ?_;clear KL;rintro e w1 ⟨v,rfl,F1,h1,hF1,hb1,hrow,hsep⟩)
  go_ret2
  obtain⟨r1,r2,r3⟩:=FH.out w1 F1 w1 h1 hF1 hb1 (below_self _)
  exact⟨.slice none 0 0,by rw[HF.out,ev_ne H0.out];rfl,F1,r1,r2,r3,fun q=>absurd (HF.out.symm.trans q) H0.out⟩
end
end Go.Proofs.YtcjdoeclblhaeaaGreatDoor.Pa
namespace Bur
theorem nxS_in {p:Sp} {u:List Int} (h:nxF p u=0):0<=nxS p u/\nxS p u<=4294967295:=by
 unfold nxF at h
 split at h
 ·rename_i e
  obtain⟨hp,_,_⟩:=usF_ok e
  rw[nxS,if_pos e]
  cases hx:nxt p u with
  | none=>rw[hx] at h;simp at h
  | some a=>
   obtain⟨a1,a2,_⟩:=nxt_some hp hx
   have:=usa_in hp
   show 0<=a/\a<=4294967295
   omega
 ·contradiction
end Bur
namespace Vs
def nkA (c:Cl) (u:List Int):Pg:=if Bur.nxF c.p (ins c.p u)=0 then puts (kA c.nm (Bur.nxS c.p (ins c.p u))) c.ow ⟨(0,0),Bur.nxS c.p (ins c.p u),ByteArray.empty,[]⟩ else err (Bur.nxF c.p (ins c.p u))
theorem ins_len (p:Bur.Sp) (u:List Int):(ins p u).length<=u.length:=List.length_filter_le _ _
theorem plcd_le (l:List Pr):(plcd l).length<=l.length:=List.length_filterMap_le _ _
end Vs
namespace Go.Proofs.YtcjdoeclblhaeaaGreatDoor.Pa
open Go.RowKit Go.Maps Vs
theorem nmA_in {w:World} {p:Option Addr} {l:List Int} (h:NmA w p l):Ha.InAt w p l:=fun hl=>by
 obtain⟨b,off,rfl,hlt,hc⟩:=h hl
 refine⟨b,off,rfl,hlt,fun i hi=>?_⟩
 rw[hc i l[i] (List.getElem?_eq_getElem hi)]
 simp[List.getD,List.getElem?_eq_getElem hi]
section
variable {T:Td} {w:World} {F:Nat->Prop} {B:Nat} {d:Dk}
theorem Ds.but (V:DFace T) {E:Nat->Prop} {w':World} (h:Ds T w F B d) (hb:But E w w') (hE:∀ j,F j -> ¬ E j) (hG:∀ j,E j -> ¬ Gl j):Ds T w' F B d:=⟨V.but h.t hb (fun j _ hj=>hE j hj),fun j hj=>Nat.lt_of_lt_of_le (h.lt j hj) hb.size,h.no,h.en.but hb hG⟩
theorem Ds.off (V:DFace T) {E F2:Nat->Prop} {d2:Dk} {w2 w4:World} (en:En w) (h2:Ds T w2 F2 B d2) (hF2:∀ j,F2 j->Nw F w w2 j) (hb2:But F w w2) (hb:But E w2 w4) (hE:∀ j,E j->w.heap.size<=j /\ ¬ F2 j):Ds T w4 F2 B d2/\(∀ j,F2 j->Nw F w w4 j)/\But F w w4:=by
 have s:=hb.size
 refine⟨h2.but V hb (fun j hj q=>(hE j q).2 hj) (fun j hj q=>?_),fun j hj=>(hF2 j hj).elim .inl (fun g=>.inr ⟨g.1,by have:=g.2;omega⟩),hb2.then hb (fun j hj q=>?_)⟩
 ·have:=en.lt q
  have:=(hE j hj).1
  omega
 ·have:=(hE j q).1
  omega
theorem plNextA (V:DFace T) (c:Cl) (i:Int) (h:Ds T w F B d) (ok:OkD d) (sm:Sm d) (hn:c.nm.size<=1000) (how:c.ow.size<=maxLen) :
  Calls Tryz.prog 170 #[wkV B c i] w fun e w'=>e=.returned (.tuple #[.int .i64 (runA (pNextA c) d i).ad,ev (runF (pNextA c) d i)])/\Dj T F w w' B (runD (pNextA c) d i):=by
 obtain⟨W,hW⟩:∃ W,W=w.alloc (.cells (wkA B c i) 188):=⟨_,rfl⟩
 have bW:Below w.heap.size w W:=by rw[hW];exact below_al (below_self w) _
 have wkW:Wk W w.heap.size B c i:=by rw[hW];exact Wk.new w B c i 188
 have wk:Wk (w.alloc (.cells (wkA B c i) 188)) w.heap.size B c i:=Wk.new w B c i 188
 have hW1:=h.step V bW
 have KL:=plWith V c i hW1 ok sm hn
 obtain⟨k0,k1,k2,k3,k4,k5,k6,k7,k8⟩:=wk
 have hwt:=sm.wt
 have sW:=bW.size
 have en:=h.en
 have hbx:¬ F w.heap.size:=fun q=>by have:=h.lt _ q;omega
 have D1:∀ w1 F1,Ds T w1 F1 B (drD d i (loK 112 c.nm) (heK 112 c.nm))->(∀ j,F1 j->Nw F W w1 j)->But F W w1->(∀ j,F1 j->Nw F w w1 j)/\But F w w1 /\ ¬ F1 w.heap.size:=fun w1 F1 h1 hF1 hb1=>by
  have s1:=hb1.size
  have hF2:∀ j,F1 j->Nw F w w1 j:=fun j hj=>(hF1 j hj).elim .inl (fun g=>.inr ⟨by have:=g.1;omega,g.2⟩)
  have hbt:But F w w1:=(But.below bW:But F w W).trans hb1
  exact⟨hF2,hbt,fun q=>(hF1 _ q).elim hbx (fun g=>by have:=g.1;have:=wkW.lt;omega)⟩
 by_cases h0:lwF d i c=0
 ·obtain⟨a1,a2,a3⟩:=(allW_is (d:=d) (i:=i) (c:=c) (K:=fun _=>allA c.nm (nkA c))).1 h0
  rw[h0,ev_0] at KL
  have okr:=ok.dr i (loK 112 c.nm) (heK 112 c.nm)
  have smr:=Sm.dr sm ok i (loK 112 c.nm) (heK 112 c.nm)
  generalize drD d i (loK 112 c.nm) (heK 112 c.nm)=d1 at KL a1 a2 a3 D1 okr smr
  have hdl:=drS_len okr i (loK 97 c.nm) (heK 97 c.nm)
  have hwt1:=smr.wt
  have hll:=plcd_le (drS d1 i (loK 97 c.nm) (heK 97 c.nm))
  have A1:Hid (runF (pNextA c) d i=_):=a1
  have A2:Hid (runD (pNextA c) d i=_):=a2
  have A3:Hid (runA (pNextA c) d i=_):=a3
  have KA:=fun w1 F1 (h1:Ds T w1 F1 B d1)=>plPlaced V c i h1 okr smr hn
  clear a1 a2 a3 h0 hW1
  by_cases h1:drF d1 i=0
  ·obtain⟨b1,b2,b3⟩:=allA_yes (d:=d1) (i:=i) (n:=c.nm) (K:=nkA c) h1
   rw[h1,ev_0] at KA
   have okA:=okr.dr i (loK 97 c.nm) (heK 97 c.nm)
   have smA:=Sm.dr smr okr i (loK 97 c.nm) (heK 97 c.nm)
   generalize drD d1 i (loK 97 c.nm) (heK 97 c.nm)=d2 at KA b1 b2 b3 okA smA
   generalize plcd (drS d1 i (loK 97 c.nm) (heK 97 c.nm))=UU at KA b1 b2 b3 hll
   have hil:=ins_len c.p UU
   have KI:=fun v n0 w3 (hrow:w3.ownsRow n0 3 1 v UU.length (inW UU))=>plInside c i B n0 UU v w3 (by omega) hrow
   have KN:∀ p cp w3 (_:NmA w3 p (ins c.p UU)),Calls Tryz.prog 219 #[pfx c.p.1 c.p.2,.slice p (ins c.p UU).length cp] w3 fun e w'=>e=.returned (.tuple #[.int .i64 (Bur.nxS c.p (ins c.p UU)),ev (Bur.nxF c.p (ins c.p UU))])/\Below w3.heap.size w3 w':=fun p cp w3 hp=>Ha.next c.p.1 c.p.2 (ins c.p UU) p cp w3 (by omega) (nmA_in hp)
   have hin:=Bur.nxS_in (p:=c.p) (u:=ins c.p UU)
   have hnk:nkA c UU=if Bur.nxF c.p (ins c.p UU)=0 then puts (kA c.nm (Bur.nxS c.p (ins c.p UU))) c.ow ⟨(0,0),Bur.nxS c.p (ins c.p UU),ByteArray.empty,[]⟩ else err (Bur.nxF c.p (ins c.p UU)):=rfl
   generalize Bur.nxS c.p (ins c.p UU)=NS at KN hin hnk
   generalize ins c.p UU=II at KI KN hin hnk hil
   clear h1
   by_cases h2:Bur.nxF c.p II=0
   ·rw[h2,ev_0] at KN
    rw[if_pos h2] at hnk
    obtain⟨i0,i1⟩:=hin h2
    obtain⟨p1,p2,p3,p4⟩:=puts_is (d:=d2) (i:=i) (k:=kA c.nm NS) (v:=c.ow) ⟨(0,0),NS,ByteArray.empty,[]⟩
    rw[<- hnk] at p1 p2 p3 p4
    have AF:=A1.out.trans (b1.trans p1)
    have E2:Hid (runD (pNextA c) d i=dcD d2 i ⟨kA c.nm NS,c.ow,false⟩):=A2.out.trans (b2.trans p2)
    have A4:=A3.out.trans b3
    have KP:=fun w4 F4 (h4:Ds T w4 F4 B d2)=>plPutAddr V c i NS h4 okA smA hn how i0 i1
    have j0:NS<9223372036854775808:=by omega
    have j1 : -9223372036854775808<=NS:=by omega
    clear b1 b2 b3 p1 p2 h2 hnk hin A1 A2 A3
    by_cases h3:dcF d2 i ⟨kA c.nm NS,c.ow,false⟩=0
    ·have E1:Hid (runF (pNextA c) d i=0):=AF.trans h3
     have E3:Hid ((runA (pNextA c) d i).ad=NS):=congrArg An.ad (A4.trans (p3 h3))
     rw[h3,ev_0] at KP
     clear p3 p4 AF A4 h3
     go_enter Tryz.func170,Tryz.ntmps170
     go_wp2_with (first
      | (go_at_call 217;rw[<- hW];refine KL.mono ?_;clear KL;rintro e w1 ⟨x,rfl,F1,g1,hF1,hb1,_⟩;obtain⟨hN1,hB1,hx1⟩:=D1 w1 F1 g1 hF1 hb1;have wk1:Wk w1 w.heap.size B c i:=wkW.but hb1 hbx;have KA1:=KA w1 F1 g1;obtain⟨m0,m1,m2,m3,m4,m5,m6,m7,m8⟩:=id wk1)
      | (go_at_call 208;refine KA1.mono ?_;clear KA1;rintro e w2 ⟨v,rfl,F2,g2,hF2,hb2,hrow,hsep⟩))
     have hE:∀ j,v.ownBlock=some j->w1.heap.size<=j /\ ¬ F2 j:=fun j hj=>⟨(hrow.lt j hj).1,hsep j hj⟩
     have wk2:Wk w2 w.heap.size B c i:=wk1.but hb2 hx1
     have KI1:=KI v w1.heap.size w2.drew (rowStep hrow (below_self w2).drew)
     clear m0 m1 m2 m3 m4 m5 m6 m7 m8 k0 k1 k2 k3 k4 k5 k6 k7 k8
     go_region_held3 (fun wy=>wy.cell? ⟨w.heap.size,0,none⟩=some (.pointer (some ⟨B,0,none⟩))/\wy.cell? ⟨w.heap.size,1,none⟩=some (.int .i64 c.what)/\wy.cell? ⟨w.heap.size,2,none⟩=some (.string c.nm)/\wy.cell? ⟨w.heap.size,3,none⟩=some (.int .i64 c.p.1)/\wy.cell? ⟨w.heap.size,4,none⟩=some (.int .i64 c.p.2)/\wy.cell? ⟨w.heap.size,5,none⟩=some (.int .i64 c.len)/\wy.cell? ⟨w.heap.size,6,none⟩=some (.int .i64 c.ad)/\wy.cell? ⟨w.heap.size,7,none⟩=some (.string c.ow)/\wy.cell? ⟨w.heap.size,8,none⟩=some (.int .i64 i))
      (first|exact⟨wk4.c0,wk4.c1,wk4.c2,wk4.c3,wk4.c4,wk4.c5,wk4.c6,wk4.c7,wk4.c8⟩|exact⟨wk3.c0,wk3.c1,wk3.c2,wk3.c3,wk3.c4,wk3.c5,wk3.c6,wk3.c7,wk3.c8⟩|exact⟨wk2.c0,wk2.c1,wk2.c2,wk2.c3,wk2.c4,wk2.c5,wk2.c6,wk2.c7,wk2.c8⟩)
      (first
       | (go_at_call 213;refine KI1.mono ?_;clear KI1;rintro e w3 ⟨u,rfl,hu,hb3,hub⟩;have wk3:Wk w3 w.heap.size B c i:=(wk2.step (below_self w2).drew).but hb3 (fun q=>by have:=(hE _ q).1;have:=wk1.lt;omega);obtain⟨pu,cu,rfl⟩:=own_form hu;have KN1:=KN pu cu w3 (nmA_own hu).2)
       | (go_at_call 219;refine KN1.mono ?_;clear KN1;rintro e w4 ⟨rfl,hb4⟩;have wk4:Wk w4 w.heap.size B c i:=wk3.step hb4))
     have b24:But (fun j=>v.ownBlock=some j) w2 w4:=((But.below (below_self w2).drew).trans hb3).step hb4
     obtain⟨g4,hN4,hB4⟩:=Ds.off V g1.en g2 hF2 hb2 b24 hE
     have KP1:=KP w4 F2 g4
     obtain⟨n0,n1,n2,n3,n4,n5,n6,n7,n8⟩:=wk4
     go_wp2_with (go_at_call 216;refine KP1.mono ?_;clear KP1;rintro e w5 ⟨rfl,hj5⟩)
     go_ret2
     exact⟨by rw[E1.out,E3.out,ev_0];rfl,by rw[E2.out];exact Dj.then hB1 hN1 (Dj.then hB4 hN4 hj5)⟩
    ·have E1:Hid (ev (runF (pNextA c) d i)=errN (dcF d2 i ⟨kA c.nm NS,c.ow,false⟩)):=(congrArg ev AF).trans (ev_ne h3)
     have E3:Hid ((runA (pNextA c) d i).ad=0):=congrArg An.ad (A4.trans (p4 h3))
     rw[ev_ne h3] at KP
     clear p3 p4 AF A4 h3
     go_enter Tryz.func170,Tryz.ntmps170
     go_wp2_with (first
      | (go_at_call 217;rw[<- hW];refine KL.mono ?_;clear KL;rintro e w1 ⟨x,rfl,F1,g1,hF1,hb1,_⟩;obtain⟨hN1,hB1,hx1⟩:=D1 w1 F1 g1 hF1 hb1;have wk1:Wk w1 w.heap.size B c i:=wkW.but hb1 hbx;have KA1:=KA w1 F1 g1;obtain⟨m0,m1,m2,m3,m4,m5,m6,m7,m8⟩:=id wk1)
      | (go_at_call 208;refine KA1.mono ?_;clear KA1;rintro e w2 ⟨v,rfl,F2,g2,hF2,hb2,hrow,hsep⟩))
     have hE:∀ j,v.ownBlock=some j->w1.heap.size<=j /\ ¬ F2 j:=fun j hj=>⟨(hrow.lt j hj).1,hsep j hj⟩
     have wk2:Wk w2 w.heap.size B c i:=wk1.but hb2 hx1
     have KI1:=KI v w1.heap.size w2.drew (rowStep hrow (below_self w2).drew)
     clear m0 m1 m2 m3 m4 m5 m6 m7 m8 k0 k1 k2 k3 k4 k5 k6 k7 k8
     go_region_held3 (fun wy=>wy.cell? ⟨w.heap.size,0,none⟩=some (.pointer (some ⟨B,0,none⟩))/\wy.cell? ⟨w.heap.size,1,none⟩=some (.int .i64 c.what)/\wy.cell? ⟨w.heap.size,2,none⟩=some (.string c.nm)/\wy.cell? ⟨w.heap.size,3,none⟩=some (.int .i64 c.p.1)/\wy.cell? ⟨w.heap.size,4,none⟩=some (.int .i64 c.p.2)/\wy.cell? ⟨w.heap.size,5,none⟩=some (.int .i64 c.len)/\wy.cell? ⟨w.heap.size,6,none⟩=some (.int .i64 c.ad)/\wy.cell? ⟨w.heap.size,7,none⟩=some (.string c.ow)/\wy.cell? ⟨w.heap.size,8,none⟩=some (.int .i64 i))
      (first|exact⟨wk4.c0,wk4.c1,wk4.c2,wk4.c3,wk4.c4,wk4.c5,wk4.c6,wk4.c7,wk4.c8⟩|exact⟨wk3.c0,wk3.c1,wk3.c2,wk3.c3,wk3.c4,wk3.c5,wk3.c6,wk3.c7,wk3.c8⟩|exact⟨wk2.c0,wk2.c1,wk2.c2,wk2.c3,wk2.c4,wk2.c5,wk2.c6,wk2.c7,wk2.c8⟩)
      (first
       | (go_at_call 213;refine KI1.mono ?_;clear KI1;rintro e w3 ⟨u,rfl,hu,hb3,hub⟩;have wk3:Wk w3 w.heap.size B c i:=(wk2.step (below_self w2).drew).but hb3 (fun q=>by have:=(hE _ q).1;have:=wk1.lt;omega);obtain⟨pu,cu,rfl⟩:=own_form hu;have KN1:=KN pu cu w3 (nmA_own hu).2)
       | (go_at_call 219;refine KN1.mono ?_;clear KN1;rintro e w4 ⟨rfl,hb4⟩;have wk4:Wk w4 w.heap.size B c i:=wk3.step hb4))
     have b24:But (fun j=>v.ownBlock=some j) w2 w4:=((But.below (below_self w2).drew).trans hb3).step hb4
     obtain⟨g4,hN4,hB4⟩:=Ds.off V g1.en g2 hF2 hb2 b24 hE
     have KP1:=KP w4 F2 g4
     obtain⟨n0,n1,n2,n3,n4,n5,n6,n7,n8⟩:=wk4
     go_wp2_with (go_at_call 216;refine KP1.mono ?_;clear KP1;rintro e w5 ⟨rfl,hj5⟩)
     go_ret2
     exact⟨by rw[E1.out,E3.out];rfl,by rw[E2.out];exact Dj.then hB1 hN1 (Dj.then hB4 hN4 hj5)⟩
   ·have HN:Hid _:=h2
    rw[ev_ne h2] at KN
    rw[if_neg h2] at hnk
    have E1:Hid (ev (runF (pNextA c) d i)=errN (Bur.nxF c.p II)):=(congrArg ev (A1.out.trans (b1.trans (by rw[hnk];rfl)))).trans (ev_ne h2)
    have E2:Hid (runD (pNextA c) d i=d2):=A2.out.trans (b2.trans (by rw[hnk];rfl))
    have E3:Hid ((runA (pNextA c) d i).ad=0):=congrArg An.ad (A3.out.trans (b3.trans (show runA (nkA c UU) d2 i=an0 by rw[hnk];rfl)))
    clear b1 b2 b3 h2 hnk hin A1 A2 A3 HN
    go_enter Tryz.func170,Tryz.ntmps170
    go_wp2_with (first
     | (go_at_call 217;rw[<- hW];refine KL.mono ?_;clear KL;rintro e w1 ⟨x,rfl,F1,g1,hF1,hb1,_⟩;obtain⟨hN1,hB1,hx1⟩:=D1 w1 F1 g1 hF1 hb1;have wk1:Wk w1 w.heap.size B c i:=wkW.but hb1 hbx;have KA1:=KA w1 F1 g1;obtain⟨m0,m1,m2,m3,m4,m5,m6,m7,m8⟩:=id wk1)
     | (go_at_call 208;refine KA1.mono ?_;clear KA1;rintro e w2 ⟨v,rfl,F2,g2,hF2,hb2,hrow,hsep⟩))
    have hE:∀ j,v.ownBlock=some j->w1.heap.size<=j /\ ¬ F2 j:=fun j hj=>⟨(hrow.lt j hj).1,hsep j hj⟩
    have wk2:Wk w2 w.heap.size B c i:=wk1.but hb2 hx1
    have KI1:=KI v w1.heap.size w2.drew (rowStep hrow (below_self w2).drew)
    clear m0 m1 m2 m3 m4 m5 m6 m7 m8 k0 k1 k2 k3 k4 k5 k6 k7 k8
    go_region_held3 (fun wy=>wy.cell? ⟨w.heap.size,0,none⟩=some (.pointer (some ⟨B,0,none⟩))/\wy.cell? ⟨w.heap.size,1,none⟩=some (.int .i64 c.what)/\wy.cell? ⟨w.heap.size,2,none⟩=some (.string c.nm)/\wy.cell? ⟨w.heap.size,3,none⟩=some (.int .i64 c.p.1)/\wy.cell? ⟨w.heap.size,4,none⟩=some (.int .i64 c.p.2)/\wy.cell? ⟨w.heap.size,5,none⟩=some (.int .i64 c.len)/\wy.cell? ⟨w.heap.size,6,none⟩=some (.int .i64 c.ad)/\wy.cell? ⟨w.heap.size,7,none⟩=some (.string c.ow)/\wy.cell? ⟨w.heap.size,8,none⟩=some (.int .i64 i))
     (first|exact⟨wk4.c0,wk4.c1,wk4.c2,wk4.c3,wk4.c4,wk4.c5,wk4.c6,wk4.c7,wk4.c8⟩|exact⟨wk3.c0,wk3.c1,wk3.c2,wk3.c3,wk3.c4,wk3.c5,wk3.c6,wk3.c7,wk3.c8⟩|exact⟨wk2.c0,wk2.c1,wk2.c2,wk2.c3,wk2.c4,wk2.c5,wk2.c6,wk2.c7,wk2.c8⟩)
     (first
      | (go_at_call 213;refine KI1.mono ?_;clear KI1;rintro e w3 ⟨u,rfl,hu,hb3,hub⟩;have wk3:Wk w3 w.heap.size B c i:=(wk2.step (below_self w2).drew).but hb3 (fun q=>by have:=(hE _ q).1;have:=wk1.lt;omega);obtain⟨pu,cu,rfl⟩:=own_form hu;have KN1:=KN pu cu w3 (nmA_own hu).2)
      | (go_at_call 219;refine KN1.mono ?_;clear KN1;rintro e w4 ⟨rfl,hb4⟩;have wk4:Wk w4 w.heap.size B c i:=wk3.step hb4))
    have b24:But (fun j=>v.ownBlock=some j) w2 w4:=((But.below (below_self w2).drew).trans hb3).step hb4
    obtain⟨g4,hN4,hB4⟩:=Ds.off V g1.en g2 hF2 hb2 b24 hE
    go_wp2_with fail
    go_ret2
    exact⟨by rw[E1.out,E3.out];rfl,by rw[E2.out];exact Dj.then hB1 hN1 ⟨⟨F2,g4,hN4⟩,hB4⟩⟩
  ·obtain⟨b1,b2,b3⟩:=allA_no (d:=d1) (i:=i) (n:=c.nm) (K:=nkA c) h1
   have E1:Hid (ev (runF (pNextA c) d i)=errN (drF d1 i)):=(congrArg ev (A1.out.trans b1)).trans (ev_ne h1)
   have E2:Hid (runD (pNextA c) d i=drD d1 i (loK 97 c.nm) (heK 97 c.nm)):=A2.out.trans b2
   have E3:Hid ((runA (pNextA c) d i).ad=0):=congrArg An.ad (A3.out.trans b3)
   rw[ev_ne h1] at KA
   clear b1 b2 b3 h1 A1 A2 A3
   go_enter Tryz.func170,Tryz.ntmps170
   go_wp2_with (first
    | (go_at_call 217;rw[<- hW];refine KL.mono ?_;clear KL;rintro e w1 ⟨x,rfl,F1,g1,hF1,hb1,_⟩;obtain⟨hN1,hB1,hx1⟩:=D1 w1 F1 g1 hF1 hb1;have wk1:Wk w1 w.heap.size B c i:=wkW.but hb1 hbx;have KA1:=KA w1 F1 g1;obtain⟨m0,m1,m2,m3,m4,m5,m6,m7,m8⟩:=id wk1)
    | (go_at_call 208;refine KA1.mono ?_;clear KA1;rintro e w2 ⟨v,rfl,F2,g2,hF2,hb2,hrow,hsep⟩))
   go_ret2
   exact⟨by rw[E1.out,E3.out];rfl,by rw[E2.out];exact Dj.then hB1 hN1 ⟨⟨F2,g2,hF2⟩,hb2⟩⟩
 ·obtain⟨a1,a2,a3⟩:=(allW_is (d:=d) (i:=i) (c:=c) (K:=fun _=>allA c.nm (nkA c))).2 h0
  have E1:Hid (ev (runF (pNextA c) d i)=errN (lwF d i c)):=(congrArg ev a1).trans (ev_ne h0)
  have E2:Hid (runD (pNextA c) d i=drD d i (loK 112 c.nm) (heK 112 c.nm)):=a2
  have E3:Hid ((runA (pNextA c) d i).ad=0):=congrArg An.ad a3
  rw[ev_ne h0] at KL
  clear a1 a2 a3 h0 hW1
  go_enter Tryz.func170,Tryz.ntmps170
  go_wp2_with (go_at_call 217;rw[<- hW];refine KL.mono ?_;clear KL;rintro e w1 ⟨x,rfl,F1,g1,hF1,hb1,_⟩;obtain⟨hN1,hB1,hx1⟩:=D1 w1 F1 g1 hF1 hb1)
  go_ret2
  exact⟨by rw[E1.out,E3.out];rfl,by rw[E2.out];exact⟨⟨F1,g1,hN1⟩,hB1⟩⟩
end
end Go.Proofs.YtcjdoeclblhaeaaGreatDoor.Pa
namespace Vs
def tkA (c:Cl) (l:List Lot) (u:List Int):Pg:=if tkF c.p l u=true then err 7 else drops (kP c.nm c.p)
def tkL (c:Cl) (l:List Lot):Pg:=allA c.nm (tkA c l)
end Vs
namespace Go.Proofs.YtcjdoeclblhaeaaGreatDoor.Pa
open Go.RowKit Go.Maps Vs
theorem plTake1 (a:Int) (b:Nat) (l:List Lot) (p:Option Addr) (cap:Nat) (w:World) (hl:l.length<=1000000) (hc:w.cell? ⟨b,0,none⟩=some (.slice p l.length cap)) (hp:LotAt w p l) :
  Calls Tryz.prog 209 #[.int .i64 a,.pointer (some ⟨b,0,none⟩)] w fun e w'=>e=.returned (.bool (decide ((hav l a).length<2)))/\Below w.heap.size w w':=by
 have KH:=plHaving l a p cap w hl hp
 generalize hav l a=R at KH ⊢
 go_enter Tryz.func209,Tryz.ntmps209
 go_wp2_with (go_at_call 210;refine KH.mono ?_;clear KH;rintro e w1 ⟨u,rfl,hu,hb1⟩;obtain⟨pu,cu,rfl,_⟩:=lot_own hu)
 go_ret
 refine⟨?_,hb1⟩
 have e:decide ((R.length:Int)<2)=decide (R.length<2):=by
  by_cases q:R.length<2
  ·rw[decide_eq_true q,decide_eq_true (by omega)]
  ·rw[decide_eq_false q,decide_eq_false (by omega)]
 first|rw[<- e]|rw[e]|skip
 try rfl
theorem enterT:∀ args w,(callFunc 209 args).run Tryz.prog w=.ok (.enter 209 args) w:=enters_of Tryz.func209 (by kernel_rfl) rfl
section
variable {T:Td} {w:World} {F:Nat->Prop} {B:Nat} {d:Dk}
theorem plTake (V:DFace T) (c:Cl) (i:Int) (h:Ds T w F B d) (ok:OkD d) (sm:Sm d) (hn:c.nm.size<=1000) (q0:0<=c.p.1) (q1:c.p.1<=4294967295) (q2:0<=c.p.2) (q3:c.p.2<100) :
  Calls Tryz.prog 166 #[wkV B c i] w fun e w'=>e=.returned (ev (runF (pTake c) d i))/\Dj T F w w' B (runD (pTake c) d i):=by
 obtain⟨W,hW⟩:∃ W,W=w.alloc (.cells (wkA B c i) 188):=⟨_,rfl⟩
 have bW:Below w.heap.size w W:=by rw[hW];exact below_al (below_self w) _
 have wkW:Wk W w.heap.size B c i:=by rw[hW];exact Wk.new w B c i 188
 have wk:Wk (w.alloc (.cells (wkA B c i) 188)) w.heap.size B c i:=Wk.new w B c i 188
 have hW1:=h.step V bW
 have KK:=plPrefixKey c.nm c.p.1 c.p.2 W hW1.en.tab hn q0 q1 q2 q3
 have hkk:(⟨(Bur.pfxK c.nm.data.toList c.p.1 c.p.2).toArray⟩:ByteArray)=kP c.nm c.p:=rfl
 rw[hkk] at KK
 have hks:(kP c.nm c.p).size<=maxLen:=by rw[kP_size];unfold maxLen;omega
 have KF:=fun w1 (h1:Ds T w1 F B d)=>plFind V c i (kP c.nm c.p) h1 ok sm hks
 obtain⟨k0,k1,k2,k3,k4,k5,k6,k7,k8⟩:=wk
 have hbx:¬ F w.heap.size:=fun q=>by have:=h.lt _ q;omega
 have okg:=ok.dg i (kP c.nm c.p)
 have smg:=Sm.dg sm ok i (kP c.nm c.p)
 have fx:=find_cases (d:=d) i (kP c.nm c.p)
 have ano:=asks_no (d:=d) (i:=i) (k:=kP c.nm c.p) (K:=fun _ is=>if is=true then allL c.nm (tkL c) else err 4)
 have ayes:=asks_yes (d:=d) (i:=i) (k:=kP c.nm c.p) (K:=fun _ is=>if is=true then allL c.nm (tkL c) else err 4)
 have aerr:=asks_err (d:=d) (i:=i) (k:=kP c.nm c.p) (K:=fun _ is=>if is=true then allL c.nm (tkL c) else err 4)
 clear hkk
 rcases fx with ⟨f1,f2,f3,f4⟩|⟨f1,f2,f3,f4⟩|⟨f0,f1,f2,f3⟩
 ·obtain⟨a1,a2,_⟩:=ano f1
  have E1:Hid (runF (pTake c) d i=4):=a1
  have E2:Hid (runD (pTake c) d i=dgD d i (kP c.nm c.p)):=a2
  rw[f2,f3,ev_0] at KF
  generalize fnS d i (kP c.nm c.p)=SS at KF
  generalize dgD d i (kP c.nm c.p)=d1 at KF E2
  clear a1 a2 f1 f2 f3 f4 ano ayes aerr okg smg
  go_enter Tryz.func166,Tryz.ntmps166
  go_wp2_with (first
   | (go_at_call 205;rw[<- hW];refine KK.mono ?_;clear KK;rintro e w1 ⟨rfl,hb1⟩;have wk1:Wk w1 w.heap.size B c i:=wkW.step hb1;have g1:=hW1.step V hb1;have KF1:=KF w1 g1;obtain⟨m0,m1,m2,m3,m4,m5,m6,m7,m8⟩:=id wk1)
   | (go_at_call 163;refine KF1.mono ?_;clear KF1;rintro e w2 ⟨rfl,hj2⟩;obtain⟨F2,g2,hN2,nx2⟩:=Dj.next hj2;have wk2:Wk w2 w.heap.size B c i:=wk1.but hj2.bt hbx;have hx2:¬ F2 w.heap.size:=(fun q=>(hN2 _ q).elim hbx (fun g=>by have:=g.1;have:=wk1.lt;omega));obtain⟨n0,n1,n2,n3,n4,n5,n6,n7,n8⟩:=id wk2))
  go_ret
  exact⟨by rw[E1.out];rfl,by rw[E2.out];exact Dj.then (F1:=F) (.below (below_via bW hb1)) (fun _ hj=>.inl hj) hj2⟩
 ·obtain⟨a1,a2,_⟩:=ayes f1
  have A1:Hid (runF (pTake c) d i=_):=a1
  have A2:Hid (runD (pTake c) d i=_):=a2
  rw[f2,f3,ev_0] at KF
  generalize fnS d i (kP c.nm c.p)=SS at KF A1 A2
  generalize dgD d i (kP c.nm c.p)=d1 at KF A1 A2 okg smg
  have hdl:=drS_len okg i (loK 112 c.nm) (heK 112 c.nm)
  have hwt:=smg.wt
  have hll:=lots_len (drS d1 i (loK 112 c.nm) (heK 112 c.nm))
  have KL:=fun w1 F1 (h1:Ds T w1 F1 B d1)=>plLots V c i h1 okg smg hn
  have okl:=okg.dr i (loK 112 c.nm) (heK 112 c.nm)
  have sml:=Sm.dr smg okg i (loK 112 c.nm) (heK 112 c.nm)
  clear a1 a2 f1 f2 f3 f4 ano ayes aerr
  by_cases h1:drF d1 i=0
  ·obtain⟨b1,b2,_⟩:=allL_yes (d:=d1) (i:=i) (n:=c.nm) (K:=tkL c) h1
   have B1:Hid (runF (pTake c) d i=_):=A1.out.trans b1
   have B2:Hid (runD (pTake c) d i=_):=A2.out.trans b2
   rw[h1,ev_0] at KL
   generalize lots (drS d1 i (loK 112 c.nm) (heK 112 c.nm))=LL at KL B1 B2 hll
   generalize drD d1 i (loK 112 c.nm) (heK 112 c.nm)=d2 at KL B1 B2 okl sml
   have hdl2:=drS_len okl i (loK 97 c.nm) (heK 97 c.nm)
   have hwt2:=sml.wt
   have hll2:=plcd_le (drS d2 i (loK 97 c.nm) (heK 97 c.nm))
   have KA:=fun w1 F1 (h1:Ds T w1 F1 B d2)=>plPlaced V c i h1 okl sml hn
   have oka:=okl.dr i (loK 97 c.nm) (heK 97 c.nm)
   have sma:=Sm.dr sml okl i (loK 97 c.nm) (heK 97 c.nm)
   clear b1 b2 A1 A2 h1
   by_cases h2:drF d2 i=0
   ·obtain⟨b1,b2,_⟩:=allA_yes (d:=d2) (i:=i) (n:=c.nm) (K:=tkA c LL) h2
    have C1:Hid (runF (pTake c) d i=_):=B1.out.trans b1
    have C2:Hid (runD (pTake c) d i=_):=B2.out.trans b2
    rw[h2,ev_0] at KA
    generalize plcd (drS d2 i (loK 97 c.nm) (heK 97 c.nm))=UU at KA C1 C2 hll2
    generalize drD d2 i (loK 97 c.nm) (heK 97 c.nm)=d3 at KA C1 C2 oka sma
    have hil:=ins_len c.p UU
    have KI:=fun p cp w3 (hp:LotAt w3 p LL)=>plInner c i B LL p cp w3 (by omega) hp
    have KS:=fun v n0 w3 (hrow:w3.ownsRow n0 3 1 v UU.length (inW UU))=>plInside c i B n0 UU v w3 (by omega) hrow
    have KC:=fun b p cp w3 (hc:w3.cell? ⟨b,0,none⟩=some (.slice p LL.length cp)) (hp:LotAt w3 p LL) q cq (hq:NmA w3 q (ins c.p UU))=>containsN 209 #[.pointer (some ⟨b,0,none⟩)] enterT (fun a=>decide ((hav LL a).length<2)) q cq (ins c.p UU) w3 (by omega) hq (fun x w4 _ hb4=>plTake1 x b LL p cp w4 (by omega) ((hb4.cell (p:=⟨b,0,none⟩) (World.block_lt_of_cell? _ _ hc)).trans hc) (hp.step hb4))
    have KD:=fun w8 F8 (h8:Ds T w8 F8 B d3)=>V.drop i (kP c.nm c.p) h8.t oka sma h8.lt hks
    have hk:tkF c.p LL UU=(decide (inn c.p LL ≠ []) || (ins c.p UU).any fun a=>decide ((hav LL a).length<2)):=rfl
    clear b1 b2 B1 B2 h2
    by_cases hi:inn c.p LL=[]
    ·rw[hi] at KI
     rw[hi,decide_eq_false (fun q=>q rfl),Bool.false_or] at hk
     cases hv:(ins c.p UU).any fun a=>decide ((hav LL a).length<2) with
     | true=>
      rw[hv] at hk KC
      have hz:tkA c LL UU=err 7:=if_pos hk
      have E1:Hid (runF (pTake c) d i=7):=C1.out.trans (by rw[hz];rfl)
      have E2:Hid (runD (pTake c) d i=d3):=C2.out.trans (by rw[hz];rfl)
      clear hv hk hi hz C1 C2
      go_enter Tryz.func166,Tryz.ntmps166
      go_wp2_with (first
       | (go_at_call 205;rw[<- hW];refine KK.mono ?_;clear KK;rintro e w1 ⟨rfl,hb1⟩;have wk1:Wk w1 w.heap.size B c i:=wkW.step hb1;have g1:=hW1.step V hb1;have KF1:=KF w1 g1;obtain⟨m0,m1,m2,m3,m4,m5,m6,m7,m8⟩:=id wk1)
       | (go_at_call 163;refine KF1.mono ?_;clear KF1;rintro e w2 ⟨rfl,hj2⟩;obtain⟨F2,g2,hN2,nx2⟩:=Dj.next hj2;have wk2:Wk w2 w.heap.size B c i:=wk1.but hj2.bt hbx;have hx2:¬ F2 w.heap.size:=(fun q=>(hN2 _ q).elim hbx (fun g=>by have:=g.1;have:=wk1.lt;omega));have KL1:=KL w2 F2 g2;obtain⟨n0,n1,n2,n3,n4,n5,n6,n7,n8⟩:=id wk2)
       | (go_at_call 207;refine KL1.mono ?_;clear KL1;rintro e w3 ⟨v,rfl,F3,g3,hN3,hb3,hrow,hsep⟩;have wk3:Wk w3 w.heap.size B c i:=wk2.but hb3 hx2;obtain⟨p,cp,rfl,hlot⟩:=lot_own hrow;have hx3:¬ F3 w.heap.size:=(fun q=>(hN3 _ q).elim hx2 (fun g=>by have:=g.1;have:=wk2.lt;omega));have wk4:Wk (w3.alloc (.cells #[.slice p LL.length cp] 288)) w.heap.size B c i:=wk3.step (below_al (below_self _) _);obtain⟨w4,hw4⟩:∃ w4,w4=w3.alloc (.cells #[.slice p LL.length cp] 288):=⟨_,rfl⟩;have b34:Below w3.heap.size w3 w4:=(by rw[hw4];exact below_al (below_self _) _);have KA1:=KA w4 F3 (g3.step V b34);obtain⟨r0,r1,r2,r3,r4,r5,r6,r7,r8⟩:=id wk4)
       | (go_at_call 208;rw[<- hw4];refine KA1.mono ?_;clear KA1;rintro e w5 ⟨y,rfl,F5,g5,hN5,hb5,hrow5,hsep5⟩;have s34:w4.heap.size=w3.heap.size+1:=(by rw[hw4,World.size_alloc]);have wk5:Wk w5 w.heap.size B c i:=(wk3.step b34).but hb5 hx3;have nf3:¬ F3 w3.heap.size:=(fun q=>Nat.lt_irrefl _ (g3.lt _ q));have bx4:w4.cell? ⟨w3.heap.size,0,none⟩=some (.slice p LL.length cp):=(by rw[hw4];simp);have bx5:=(hb5.cell (p:=⟨w3.heap.size,0,none⟩) (show w3.heap.size<w4.heap.size by omega) nf3).trans bx4;have lot5:LotAt w5 p LL:=(hlot.step b34).but (n:=LL.length) (c:=cp) hb5 hsep;have KI1:=KI p cp w5 lot5;obtain⟨t0,t1,t2,t3,t4,t5,t6,t7,t8⟩:=id wk5)
       | (go_at_call 211;refine KI1.mono ?_;clear KI1;rintro e w6 ⟨u,rfl,hu,hb6⟩;obtain⟨pu,cu,rfl⟩:=own_form hu;have wk6:Wk w6 w.heap.size B c i:=wk5.step hb6;have KS1:=KS y w4.heap.size w6 (rowStep hrow5 hb6);obtain⟨x0,x1,x2,x3,x4,x5,x6,x7,x8⟩:=id wk6)
       | (go_at_call 213;refine KS1.mono ?_;clear KS1;rintro e w7 ⟨u2,rfl,hu2,hb7,hub7⟩;obtain⟨pv,cv,rfl⟩:=own_form hu2;have hE:∀ j,y.ownBlock=some j->w4.heap.size<=j /\ ¬ F5 j:=(fun j hj=>⟨(hrow5.lt j hj).1,hsep5 j hj⟩);have s5:=hb5.size;have s6:=hb6.size;have wk7:Wk w7 w.heap.size B c i:=wk6.but hb7 (fun q=>by have:=(hE _ q).1;have:=wk3.lt;omega);have bx6:=(hb6.cell (p:=⟨w3.heap.size,0,none⟩) (show w3.heap.size<w5.heap.size by omega)).trans bx5;have bx7:=(hb7.cell (p:=⟨w3.heap.size,0,none⟩) (show w3.heap.size<w6.heap.size by omega) (fun q=>by have:=(hE w3.heap.size q).1;omega)).trans bx6;have lot7:LotAt w7 p LL:=(lot5.step hb6).but (n:=LL.length) (c:=cp) hb7 (fun j hj q=>by have:=(hE _ q).1;have:=(hrow.lt j hj).2;omega);have KC1:=KC w3.heap.size p cp w7 bx7 lot7 pv cv (nmA_own hu2).2)
       | (go_at_call 212;refine KC1.mono ?_;clear KC1;rintro e w8 ⟨rfl,hb8⟩;have b58:But (fun j=>y.ownBlock=some j) w5 w8:=((But.below hb6).trans hb7).step hb8;obtain⟨g8,hN8,hB8⟩:=Ds.off V (g3.step V b34).en g5 hN5 hb5 b58 hE;have wk8:Wk w8 w.heap.size B c i:=wk7.step hb8;have KD1:=KD w8 F5 g8;obtain⟨y0,y1,y2,y3,y4,y5,y6,y7,y8⟩:=id wk8))
      go_ret
      exact⟨by rw[E1.out];rfl,by rw[E2.out];exact Dj.then (F1:=F) (.below (below_via bW hb1)) (fun _ hj=>.inl hj) (nx2 _ _ (Dj.then hb3 hN3 (Dj.then (F1:=F3) (.below b34) (fun _ hj=>.inl hj) ⟨⟨F5,g8,hN8⟩,hB8⟩)))⟩
     | false=>
      rw[hv] at hk KC
      have hz:tkA c LL UU=drops (kP c.nm c.p):=if_neg (by rw[hk];exact Bool.false_ne_true)
      obtain⟨p1,p2,_⟩:=drops_is (d:=d3) (i:=i) (k:=kP c.nm c.p)
      have E1:Hid (runF (pTake c) d i=dcF d3 i ⟨kP c.nm c.p,ByteArray.empty,true⟩):=C1.out.trans (by rw[hz];exact p1)
      have E2:Hid (runD (pTake c) d i=dcD d3 i ⟨kP c.nm c.p,ByteArray.empty,true⟩):=C2.out.trans (by rw[hz];exact p2)
      clear hv hk hi hz C1 C2 p1 p2
      go_enter Tryz.func166,Tryz.ntmps166
      go_wp2_with (first
       | (go_at_call 205;rw[<- hW];refine KK.mono ?_;clear KK;rintro e w1 ⟨rfl,hb1⟩;have wk1:Wk w1 w.heap.size B c i:=wkW.step hb1;have g1:=hW1.step V hb1;have KF1:=KF w1 g1;obtain⟨m0,m1,m2,m3,m4,m5,m6,m7,m8⟩:=id wk1)
       | (go_at_call 163;refine KF1.mono ?_;clear KF1;rintro e w2 ⟨rfl,hj2⟩;obtain⟨F2,g2,hN2,nx2⟩:=Dj.next hj2;have wk2:Wk w2 w.heap.size B c i:=wk1.but hj2.bt hbx;have hx2:¬ F2 w.heap.size:=(fun q=>(hN2 _ q).elim hbx (fun g=>by have:=g.1;have:=wk1.lt;omega));have KL1:=KL w2 F2 g2;obtain⟨n0,n1,n2,n3,n4,n5,n6,n7,n8⟩:=id wk2)
       | (go_at_call 207;refine KL1.mono ?_;clear KL1;rintro e w3 ⟨v,rfl,F3,g3,hN3,hb3,hrow,hsep⟩;have wk3:Wk w3 w.heap.size B c i:=wk2.but hb3 hx2;obtain⟨p,cp,rfl,hlot⟩:=lot_own hrow;have hx3:¬ F3 w.heap.size:=(fun q=>(hN3 _ q).elim hx2 (fun g=>by have:=g.1;have:=wk2.lt;omega));have wk4:Wk (w3.alloc (.cells #[.slice p LL.length cp] 288)) w.heap.size B c i:=wk3.step (below_al (below_self _) _);obtain⟨w4,hw4⟩:∃ w4,w4=w3.alloc (.cells #[.slice p LL.length cp] 288):=⟨_,rfl⟩;have b34:Below w3.heap.size w3 w4:=(by rw[hw4];exact below_al (below_self _) _);have KA1:=KA w4 F3 (g3.step V b34);obtain⟨r0,r1,r2,r3,r4,r5,r6,r7,r8⟩:=id wk4)
       | (go_at_call 208;rw[<- hw4];refine KA1.mono ?_;clear KA1;rintro e w5 ⟨y,rfl,F5,g5,hN5,hb5,hrow5,hsep5⟩;have s34:w4.heap.size=w3.heap.size+1:=(by rw[hw4,World.size_alloc]);have wk5:Wk w5 w.heap.size B c i:=(wk3.step b34).but hb5 hx3;have nf3:¬ F3 w3.heap.size:=(fun q=>Nat.lt_irrefl _ (g3.lt _ q));have bx4:w4.cell? ⟨w3.heap.size,0,none⟩=some (.slice p LL.length cp):=(by rw[hw4];simp);have bx5:=(hb5.cell (p:=⟨w3.heap.size,0,none⟩) (show w3.heap.size<w4.heap.size by omega) nf3).trans bx4;have lot5:LotAt w5 p LL:=(hlot.step b34).but (n:=LL.length) (c:=cp) hb5 hsep;have KI1:=KI p cp w5 lot5;obtain⟨t0,t1,t2,t3,t4,t5,t6,t7,t8⟩:=id wk5)
       | (go_at_call 211;refine KI1.mono ?_;clear KI1;rintro e w6 ⟨u,rfl,hu,hb6⟩;obtain⟨pu,cu,rfl⟩:=own_form hu;have wk6:Wk w6 w.heap.size B c i:=wk5.step hb6;have KS1:=KS y w4.heap.size w6 (rowStep hrow5 hb6);obtain⟨x0,x1,x2,x3,x4,x5,x6,x7,x8⟩:=id wk6)
       | (go_at_call 213;refine KS1.mono ?_;clear KS1;rintro e w7 ⟨u2,rfl,hu2,hb7,hub7⟩;obtain⟨pv,cv,rfl⟩:=own_form hu2;have hE:∀ j,y.ownBlock=some j->w4.heap.size<=j /\ ¬ F5 j:=(fun j hj=>⟨(hrow5.lt j hj).1,hsep5 j hj⟩);have s5:=hb5.size;have s6:=hb6.size;have wk7:Wk w7 w.heap.size B c i:=wk6.but hb7 (fun q=>by have:=(hE _ q).1;have:=wk3.lt;omega);have bx6:=(hb6.cell (p:=⟨w3.heap.size,0,none⟩) (show w3.heap.size<w5.heap.size by omega)).trans bx5;have bx7:=(hb7.cell (p:=⟨w3.heap.size,0,none⟩) (show w3.heap.size<w6.heap.size by omega) (fun q=>by have:=(hE w3.heap.size q).1;omega)).trans bx6;have lot7:LotAt w7 p LL:=(lot5.step hb6).but (n:=LL.length) (c:=cp) hb7 (fun j hj q=>by have:=(hE _ q).1;have:=(hrow.lt j hj).2;omega);have KC1:=KC w3.heap.size p cp w7 bx7 lot7 pv cv (nmA_own hu2).2)
       | (go_at_call 212;refine KC1.mono ?_;clear KC1;rintro e w8 ⟨rfl,hb8⟩;have b58:But (fun j=>y.ownBlock=some j) w5 w8:=((But.below hb6).trans hb7).step hb8;obtain⟨g8,hN8,hB8⟩:=Ds.off V (g3.step V b34).en g5 hN5 hb5 b58 hE;have wk8:Wk w8 w.heap.size B c i:=wk7.step hb8;have KD1:=KD w8 F5 g8;obtain⟨y0,y1,y2,y3,y4,y5,y6,y7,y8⟩:=id wk8)
       | (go_at_call 214;refine KD1.mono ?_;clear KD1;rintro e w9 ⟨rfl,hT9,hb9⟩))
      go_ret
      exact⟨by rw[E1.out];rfl,by rw[E2.out];exact Dj.then (F1:=F) (.below (below_via bW hb1)) (fun _ hj=>.inl hj) (nx2 _ _ (Dj.then hb3 hN3 (Dj.then (F1:=F3) (.below b34) (fun _ hj=>.inl hj) (Dj.then hB8 hN8 (Dj.of g8 hT9 (fun _ hj=>hj) hb9)))))⟩
    ·rw[decide_eq_true (show inn c.p LL ≠ [] from hi),Bool.true_or] at hk
     have hz:tkA c LL UU=err 7:=if_pos hk
     have E1:Hid (runF (pTake c) d i=7):=C1.out.trans (by rw[hz];rfl)
     have E2:Hid (runD (pTake c) d i=d3):=C2.out.trans (by rw[hz];rfl)
     have hl0:0<(inn c.p LL).length:=List.length_pos_iff.2 hi
     have hl1:decide (0<((inn c.p LL).length:Int))=true:=decide_eq_true (by omega)
     clear hk hi hz C1 C2
     generalize inn c.p LL=NN at KI hl0 hl1
     go_enter Tryz.func166,Tryz.ntmps166
     go_wp2_with (first
      | (go_at_call 205;rw[<- hW];refine KK.mono ?_;clear KK;rintro e w1 ⟨rfl,hb1⟩;have wk1:Wk w1 w.heap.size B c i:=wkW.step hb1;have g1:=hW1.step V hb1;have KF1:=KF w1 g1;obtain⟨m0,m1,m2,m3,m4,m5,m6,m7,m8⟩:=id wk1)
      | (go_at_call 163;refine KF1.mono ?_;clear KF1;rintro e w2 ⟨rfl,hj2⟩;obtain⟨F2,g2,hN2,nx2⟩:=Dj.next hj2;have wk2:Wk w2 w.heap.size B c i:=wk1.but hj2.bt hbx;have hx2:¬ F2 w.heap.size:=(fun q=>(hN2 _ q).elim hbx (fun g=>by have:=g.1;have:=wk1.lt;omega));have KL1:=KL w2 F2 g2;obtain⟨n0,n1,n2,n3,n4,n5,n6,n7,n8⟩:=id wk2)
      | (go_at_call 207;refine KL1.mono ?_;clear KL1;rintro e w3 ⟨v,rfl,F3,g3,hN3,hb3,hrow,hsep⟩;have wk3:Wk w3 w.heap.size B c i:=wk2.but hb3 hx2;obtain⟨p,cp,rfl,hlot⟩:=lot_own hrow;have hx3:¬ F3 w.heap.size:=(fun q=>(hN3 _ q).elim hx2 (fun g=>by have:=g.1;have:=wk2.lt;omega));have wk4:Wk (w3.alloc (.cells #[.slice p LL.length cp] 288)) w.heap.size B c i:=wk3.step (below_al (below_self _) _);obtain⟨w4,hw4⟩:∃ w4,w4=w3.alloc (.cells #[.slice p LL.length cp] 288):=⟨_,rfl⟩;have b34:Below w3.heap.size w3 w4:=(by rw[hw4];exact below_al (below_self _) _);have KA1:=KA w4 F3 (g3.step V b34);obtain⟨r0,r1,r2,r3,r4,r5,r6,r7,r8⟩:=id wk4)
      | (go_at_call 208;rw[<- hw4];refine KA1.mono ?_;clear KA1;rintro e w5 ⟨y,rfl,F5,g5,hN5,hb5,hrow5,hsep5⟩;have s34:w4.heap.size=w3.heap.size+1:=(by rw[hw4,World.size_alloc]);have wk5:Wk w5 w.heap.size B c i:=(wk3.step b34).but hb5 hx3;have nf3:¬ F3 w3.heap.size:=(fun q=>Nat.lt_irrefl _ (g3.lt _ q));have bx4:w4.cell? ⟨w3.heap.size,0,none⟩=some (.slice p LL.length cp):=(by rw[hw4];simp);have bx5:=(hb5.cell (p:=⟨w3.heap.size,0,none⟩) (show w3.heap.size<w4.heap.size by omega) nf3).trans bx4;have lot5:LotAt w5 p LL:=(hlot.step b34).but (n:=LL.length) (c:=cp) hb5 hsep;have KI1:=KI p cp w5 lot5;obtain⟨t0,t1,t2,t3,t4,t5,t6,t7,t8⟩:=id wk5)
      | (go_at_call 211;refine KI1.mono ?_;clear KI1;rintro e w6 ⟨u,rfl,hu,hb6⟩;obtain⟨pu,cu,rfl⟩:=own_form hu;have wk6:Wk w6 w.heap.size B c i:=wk5.step hb6;have KS1:=KS y w4.heap.size w6 (rowStep hrow5 hb6);obtain⟨x0,x1,x2,x3,x4,x5,x6,x7,x8⟩:=id wk6))
     go_ret
     exact⟨by rw[E1.out];rfl,by rw[E2.out];exact Dj.then (F1:=F) (.below (below_via bW hb1)) (fun _ hj=>.inl hj) (nx2 _ _ (Dj.then hb3 hN3 (Dj.then (F1:=F3) (.below b34) (fun _ hj=>.inl hj) (Dj.step V ⟨⟨F5,g5,hN5⟩,hb5⟩ hb6))))⟩
   ·obtain⟨b1,b2,_⟩:=allA_no (d:=d2) (i:=i) (n:=c.nm) (K:=tkA c LL) h2
    have E1:Hid (ev (runF (pTake c) d i)=errN (drF d2 i)):=(congrArg ev (B1.out.trans b1)).trans (ev_ne h2)
    have E2:Hid (runD (pTake c) d i=_):=B2.out.trans b2
    rw[ev_ne h2] at KA
    clear b1 b2 B1 B2 h2
    go_enter Tryz.func166,Tryz.ntmps166
    go_wp2_with (first
     | (go_at_call 205;rw[<- hW];refine KK.mono ?_;clear KK;rintro e w1 ⟨rfl,hb1⟩;have wk1:Wk w1 w.heap.size B c i:=wkW.step hb1;have g1:=hW1.step V hb1;have KF1:=KF w1 g1;obtain⟨m0,m1,m2,m3,m4,m5,m6,m7,m8⟩:=id wk1)
     | (go_at_call 163;refine KF1.mono ?_;clear KF1;rintro e w2 ⟨rfl,hj2⟩;obtain⟨F2,g2,hN2,nx2⟩:=Dj.next hj2;have wk2:Wk w2 w.heap.size B c i:=wk1.but hj2.bt hbx;have hx2:¬ F2 w.heap.size:=(fun q=>(hN2 _ q).elim hbx (fun g=>by have:=g.1;have:=wk1.lt;omega));have KL1:=KL w2 F2 g2;obtain⟨n0,n1,n2,n3,n4,n5,n6,n7,n8⟩:=id wk2)
     | (go_at_call 207;refine KL1.mono ?_;clear KL1;rintro e w3 ⟨v,rfl,F3,g3,hN3,hb3,hrow,hsep⟩;have wk3:Wk w3 w.heap.size B c i:=wk2.but hb3 hx2;obtain⟨p,cp,rfl,hlot⟩:=lot_own hrow;have hx3:¬ F3 w.heap.size:=(fun q=>(hN3 _ q).elim hx2 (fun g=>by have:=g.1;have:=wk2.lt;omega));have wk4:Wk (w3.alloc (.cells #[.slice p LL.length cp] 288)) w.heap.size B c i:=wk3.step (below_al (below_self _) _);obtain⟨w4,hw4⟩:∃ w4,w4=w3.alloc (.cells #[.slice p LL.length cp] 288):=⟨_,rfl⟩;have b34:Below w3.heap.size w3 w4:=(by rw[hw4];exact below_al (below_self _) _);have KA1:=KA w4 F3 (g3.step V b34);obtain⟨r0,r1,r2,r3,r4,r5,r6,r7,r8⟩:=id wk4)
     | (go_at_call 208;rw[<- hw4];refine KA1.mono ?_;clear KA1;rintro e w5 ⟨y,rfl,F5,g5,hN5,hb5,hrow5,hsep5⟩;have s34:w4.heap.size=w3.heap.size+1:=(by rw[hw4,World.size_alloc]);have wk5:Wk w5 w.heap.size B c i:=(wk3.step b34).but hb5 hx3;have nf3:¬ F3 w3.heap.size:=(fun q=>Nat.lt_irrefl _ (g3.lt _ q));have bx4:w4.cell? ⟨w3.heap.size,0,none⟩=some (.slice p LL.length cp):=(by rw[hw4];simp);have bx5:=(hb5.cell (p:=⟨w3.heap.size,0,none⟩) (show w3.heap.size<w4.heap.size by omega) nf3).trans bx4;have lot5:LotAt w5 p LL:=(hlot.step b34).but (n:=LL.length) (c:=cp) hb5 hsep;obtain⟨t0,t1,t2,t3,t4,t5,t6,t7,t8⟩:=id wk5))
    go_ret
    exact⟨by rw[E1.out];rfl,by rw[E2.out];exact Dj.then (F1:=F) (.below (below_via bW hb1)) (fun _ hj=>.inl hj) (nx2 _ _ (Dj.then hb3 hN3 (Dj.then (F1:=F3) (.below b34) (fun _ hj=>.inl hj) ⟨⟨F5,g5,hN5⟩,hb5⟩)))⟩
  ·obtain⟨b1,b2,_⟩:=allL_no (d:=d1) (i:=i) (n:=c.nm) (K:=tkL c) h1
   have E1:Hid (ev (runF (pTake c) d i)=errN (drF d1 i)):=(congrArg ev (A1.out.trans b1)).trans (ev_ne h1)
   have E2:Hid (runD (pTake c) d i=_):=A2.out.trans b2
   rw[ev_ne h1] at KL
   generalize lots (drS d1 i (loK 112 c.nm) (heK 112 c.nm))=LL at KL hll
   clear b1 b2 A1 A2 h1
   go_enter Tryz.func166,Tryz.ntmps166
   go_wp2_with (first
    | (go_at_call 205;rw[<- hW];refine KK.mono ?_;clear KK;rintro e w1 ⟨rfl,hb1⟩;have wk1:Wk w1 w.heap.size B c i:=wkW.step hb1;have g1:=hW1.step V hb1;have KF1:=KF w1 g1;obtain⟨m0,m1,m2,m3,m4,m5,m6,m7,m8⟩:=id wk1)
    | (go_at_call 163;refine KF1.mono ?_;clear KF1;rintro e w2 ⟨rfl,hj2⟩;obtain⟨F2,g2,hN2,nx2⟩:=Dj.next hj2;have wk2:Wk w2 w.heap.size B c i:=wk1.but hj2.bt hbx;have hx2:¬ F2 w.heap.size:=(fun q=>(hN2 _ q).elim hbx (fun g=>by have:=g.1;have:=wk1.lt;omega));have KL1:=KL w2 F2 g2;obtain⟨n0,n1,n2,n3,n4,n5,n6,n7,n8⟩:=id wk2)
    | (go_at_call 207;refine KL1.mono ?_;clear KL1;rintro e w3 ⟨v,rfl,F3,g3,hN3,hb3,hrow,hsep⟩;have wk3:Wk w3 w.heap.size B c i:=wk2.but hb3 hx2;obtain⟨p,cp,rfl,hlot⟩:=lot_own hrow;have hx3:¬ F3 w.heap.size:=(fun q=>(hN3 _ q).elim hx2 (fun g=>by have:=g.1;have:=wk2.lt;omega));have wk4:Wk (w3.alloc (.cells #[.slice p LL.length cp] 288)) w.heap.size B c i:=wk3.step (below_al (below_self _) _);obtain⟨w4,hw4⟩:∃ w4,w4=w3.alloc (.cells #[.slice p LL.length cp] 288):=⟨_,rfl⟩;have b34:Below w3.heap.size w3 w4:=(by rw[hw4];exact below_al (below_self _) _);obtain⟨r0,r1,r2,r3,r4,r5,r6,r7,r8⟩:=id wk4))
   go_ret
   exact⟨by rw[E1.out];rfl,by rw[E2.out,<- hw4];exact Dj.then (F1:=F) (.below (below_via bW hb1)) (fun _ hj=>.inl hj) (nx2 _ _ (Dj.step V ⟨⟨F3,g3,hN3⟩,hb3⟩ b34))⟩
 ·obtain⟨a1,a2,_⟩:=aerr f0 f1
  have E1:Hid (ev (runF (pTake c) d i)=errN (dgF d i (kP c.nm c.p))):=(congrArg ev a1).trans (ev_ne f1)
  have E2:Hid (runD (pTake c) d i=dgD d i (kP c.nm c.p)):=a2
  rw[f2,f3,ev_ne f1] at KF
  generalize fnS d i (kP c.nm c.p)=SS at KF
  generalize dgD d i (kP c.nm c.p)=d1 at KF E2
  clear a1 a2 f0 f1 f2 f3 ano ayes aerr okg smg
  go_enter Tryz.func166,Tryz.ntmps166
  go_wp2_with (first
   | (go_at_call 205;rw[<- hW];refine KK.mono ?_;clear KK;rintro e w1 ⟨rfl,hb1⟩;have wk1:Wk w1 w.heap.size B c i:=wkW.step hb1;have g1:=hW1.step V hb1;have KF1:=KF w1 g1;obtain⟨m0,m1,m2,m3,m4,m5,m6,m7,m8⟩:=id wk1)
   | (go_at_call 163;refine KF1.mono ?_;clear KF1;rintro e w2 ⟨rfl,hj2⟩;obtain⟨F2,g2,hN2,nx2⟩:=Dj.next hj2;have wk2:Wk w2 w.heap.size B c i:=wk1.but hj2.bt hbx;have hx2:¬ F2 w.heap.size:=(fun q=>(hN2 _ q).elim hbx (fun g=>by have:=g.1;have:=wk1.lt;omega));obtain⟨n0,n1,n2,n3,n4,n5,n6,n7,n8⟩:=id wk2))
  go_ret
  exact⟨by rw[E1.out];rfl,by rw[E2.out];exact Dj.then (F1:=F) (.below (below_via bW hb1)) (fun _ hj=>.inl hj) hj2⟩
end
end Go.Proofs.YtcjdoeclblhaeaaGreatDoor.Pa
