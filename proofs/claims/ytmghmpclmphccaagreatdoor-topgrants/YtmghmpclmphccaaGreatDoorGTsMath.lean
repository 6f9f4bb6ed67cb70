/- -/
import Derived.Test.YtmghmpclmphccaaGreatDoorGPlV
set_option maxHeartbeats 8000000
set_option maxRecDepth 100000
namespace Go.Proofs.YtmghmpclmphccaaGreatDoor.Pa
open Go.RowKit Vs
theorem MI (o:Ox)(k:ByteArray):(∃ks,(lgO o k).keys=o.keys++ks)/\(∃ss,(lgO o k).spans=o.spans++ss):=by
 unfold lgO
 split
 ·split
  ·exact⟨⟨[],(List.append_nil _).symm⟩,⟨[],(List.append_nil _).symm⟩⟩
  ·exact⟨⟨[k],rfl⟩,⟨[],(List.append_nil _).symm⟩⟩
 ·exact⟨⟨[],(List.append_nil _).symm⟩,⟨[],(List.append_nil _).symm⟩⟩
theorem MX (o:Ox)(lo hi:ByteArray):(∃ks,(lrO o lo hi).keys=o.keys++ks)/\(∃ss,(lrO o lo hi).spans=o.spans++ss):=by
 unfold lrO
 split
 ·exact⟨⟨[],(List.append_nil _).symm⟩,⟨[],(List.append_nil _).symm⟩⟩
 ·exact⟨⟨[],(List.append_nil _).symm⟩,⟨[(lo,hi)],rfl⟩⟩
theorem UH (o:Ox)(c:Chg):(∃ks,(lcO o c).keys=o.keys++ks)/\(∃ss,(lcO o c).spans=o.spans++ss):=by
 unfold lcO
 split
 ·split <;> exact⟨⟨[],(List.append_nil _).symm⟩,⟨[],(List.append_nil _).symm⟩⟩
 ·exact⟨⟨[],(List.append_nil _).symm⟩,⟨[],(List.append_nil _).symm⟩⟩
theorem iT {α : Type}{a b c:List α}(h1:∃x,b=a++x)(h2:∃y,c=b++y):∃z,c=a++z:=by
 obtain⟨x,rfl⟩:=h1
 obtain⟨y,rfl⟩:=h2
 exact⟨x++y,List.append_assoc _ _ _⟩
theorem NR:∀(g:Pg) (vs:List Ver) (o:Ox),(∃ks,(loR g vs o).2.2.keys=o.keys++ks)/\(∃ss,(loR g vs o).2.2.spans=o.spans++ss)
 | .ret _ _,_,_=>⟨⟨[],(List.append_nil _).symm⟩,⟨[],(List.append_nil _).symm⟩⟩
 | .get k K,vs,o=>by
  have a:=NR (K (lgS vs o k) (lgF vs o k)) vs (lgO o k)
  exact⟨iT (MI o k).1 a.1,iT (MI o k).2 a.2⟩
 | .rng lo hi K,vs,o=>by
  have a:=NR (K (lrS vs o lo hi) (lrF o)) vs (lrO o lo hi)
  exact⟨iT (MX o lo hi).1 a.1,iT (MX o lo hi).2 a.2⟩
 | .chg c K,vs,o=>by
  have a:=NR (K (lcF o c)) vs (lcO o c)
  exact⟨iT (UH o c).1 a.1,iT (UH o c).2 a.2⟩
theorem ZJ {vs ws:List Ver}{a b:Int}{own:List Chg}{k:ByteArray}(h:bG vs k a=bG ws k b):aT ws b own k=aT vs a own k:=by
 unfold aT
 cases bP own k with
 | none=>exact h.symm
 | some c=>rfl
def Ql (q:Bool):Pg->Prop
 | .ret _ f=>f≠0 \/ q=false
 | .get _ K=>∀v f,Ql q (K v f)
 | .rng _ _ K=>∀l f,Ql q (K l f)
 | .chg _ K=>q=true /\ ∀f,∃a,K f=.ret a f
theorem acB (l:List Chg)(c:Chg):bI l c ≠ []:=by
 cases l with
 | nil=>simp[bI]
 | cons x r=>
  unfold bI
  split
  ·simp
  ·split <;> simp
theorem Zl (q:Bool):∀(g:Pg) (vs:List Ver) (o:Ox),Ql q g->((q=false \/ (loR g vs o).2.1≠0)->(loR g vs o).2.2.own=o.own)/\(q=true->(loR g vs o).2.1=0->(loR g vs o).2.2.own ≠ [])
 | .ret _ f,_,o,h=>by
  refine⟨fun _=>rfl,fun hq hf=>?_⟩
  rcases h with h|h
  ·exact absurd hf h
  ·rw[h] at hq;cases hq
 | .get k K,vs,o,h=>by
  have a:=Zl q (K (lgS vs o k) (lgF vs o k)) vs (lgO o k) (h _ _)
  rw[(LG o k).2.2] at a
  exact a
 | .rng lo hi K,vs,o,h=>by
  have a:=Zl q (K (lrS vs o lo hi) (lrF o)) vs (lrO o lo hi) (h _ _)
  rw[(CZ o lo hi).2.2] at a
  exact a
 | .chg c K,vs,o,h=>by
  obtain⟨hq,hK⟩:=h
  obtain⟨a,e⟩:=hK (lcF o c)
  have e1:loR (.chg c K) vs o=(a,lcF o c,lcO o c):=by show loR (K (lcF o c)) vs (lcO o c)=_;rw[e];rfl
  rw[e1]
  show ((q=false \/ lcF o c≠0)->(lcO o c).own=o.own)/\(q=true->lcF o c=0->(lcO o c).own ≠ [])
  unfold lcF lcO
  by_cases c0:shF c.k c.v=0
  ·rw[if_pos c0,if_pos c0]
   by_cases c1:20<(bI o.own c).length
   ·rw[if_pos c1,if_pos c1]
    exact⟨fun _=>rfl,fun _ h=>by cases h⟩
   ·rw[if_neg c1,if_neg c1]
    refine⟨fun h=>?_,fun _ _=>acB _ _⟩
    rcases h with h|h
    ·rw[h] at hq;cases hq
    ·exact absurd rfl h
  ·rw[if_neg c0,if_neg c0]
   exact⟨fun _=>rfl,fun _ h=>by cases h⟩
theorem dX {q:Bool}{f:Int}(h:f≠0):Ql q (err f):=.inl h
theorem xQ {q:Bool}{k:ByteArray}{K:ByteArray->Bool->Pg}(h:∀v b,Ql q (K v b)):Ql q (asks k K):=by
 intro v f
 show Ql q (if f=4 then K ByteArray.empty false else if f=0 then K v true else err f)
 split
 ·exact h _ _
 ·split
  ·exact h _ _
  ·exact dX ‹_›
theorem xC {q:Bool}{n:ByteArray}{K:List Lot->Pg}(h:∀l,Ql q (K l)):Ql q (allL n K):=by
 intro l f
 show Ql q (if f=0 then K (lots l) else err f)
 split
 ·exact h _
 ·exact dX ‹_›
theorem Vk {q:Bool}{n:ByteArray}{K:List Int->Pg}(h:∀l,Ql q (K l)):Ql q (allA n K):=by
 intro l f
 show Ql q (if f=0 then K (fG l) else err f)
 split
 ·exact h _
 ·exact dX ‹_›
theorem yO (k v:ByteArray)(a:An):Ql true (puts k v a):=by
 refine⟨rfl,fun f=>?_⟩
 by_cases h:f=0
 ·exact⟨a,by show (if f=0 then _ else _)=_;rw[if_pos h,h]⟩
 ·exact⟨an0,by show (if f=0 then _ else _)=_;rw[if_neg h];rfl⟩
theorem OA (k:ByteArray):Ql true (drops k):=⟨rfl,fun _=>⟨an0,rfl⟩⟩
def chC (c:Cl):Bool := !(decide (c.what=8) || decide (c.what=9))
theorem ahp (c:Cl):Ql (chC c) (doP c):=by
 unfold doP
 by_cases hc:clF c=0
 ·rw[if_pos hc,zJ]
  refine xQ (fun _ b=>?_)
  have T:c.what≠8->c.what≠9->chC c=true:=fun h1 h2=>by unfold chC;simp[h1,h2]
  unfold aN
  by_cases w1:c.what=1
  ·rw[if_pos w1,T (by omega) (by omega)]
   unfold XY
   split
   ·exact dX (by decide)
   ·exact yO _ _ _
  rw[if_neg w1]
  by_cases hb:b=false
  ·rw[if_pos hb];exact dX (by decide)
  rw[if_neg hb]
  by_cases w2:c.what=2
  ·rw[if_pos w2,T (by omega) (by omega)]
   refine xQ (fun _ b=>?_)
   split
   ·exact dX (by decide)
   ·exact yO _ _ _
  rw[if_neg w2]
  by_cases w3:c.what=3
  ·rw[if_pos w3,T (by omega) (by omega)]
   refine xQ (fun _ b=>?_)
   split
   ·refine xC (fun l=>Vk (fun u=>?_))
    split
    ·exact dX (by decide)
    ·exact OA _
   ·exact dX (by decide)
  rw[if_neg w3]
  by_cases w4:c.what=4
  ·rw[if_pos w4,T (by omega) (by omega)]
   refine xC (fun l=>xQ (fun _ b=>?_))
   split
   ·exact dX (by decide)
   ·split
    ·exact dX (by decide)
    ·exact yO _ _ _
  rw[if_neg w4]
  by_cases w5:c.what=5
  ·rw[if_pos w5,T (by omega) (by omega)]
   refine xQ (fun _ b=>?_)
   split
   ·exact OA _
   ·exact dX (by decide)
  rw[if_neg w5]
  by_cases w6:c.what=6
  ·rw[if_pos w6,T (by omega) (by omega)]
   unfold aV rQ
   refine xC (fun l=>?_)
   split
   ·dsimp only
    split
    ·split
     ·exact dX (by decide)
     ·exact yO _ _ _
    ·exact dX ‹_›
   ·exact dX (by decide)
  rw[if_neg w6]
  by_cases w7:c.what=7
  ·rw[if_pos w7,T (by omega) (by omega)]
   unfold aX rQ
   refine xC (fun l=>?_)
   split
   ·dsimp only
    refine Vk (fun u=>?_)
    split
    ·exact yO _ _ _
    ·exact dX ‹_›
   ·exact dX (by decide)
  rw[if_neg w7]
  by_cases w8:c.what=8
  ·rw[if_pos w8,show chC c=false by unfold chC;simp[w8]]
   exact xC (fun l=>.inr rfl)
  rw[if_neg w8]
  have w9:c.what=9:=by have:=sG hc;omega
  rw[show chC c=false by unfold chC;simp[w9]]
  refine xQ (fun _ b=>?_)
  split
  ·exact .inr rfl
  ·refine xC (fun l=>?_)
   split
   ·exact .inr rfl
   ·exact .inr rfl
 ·rw[if_neg hc];exact dX hc
end Go.Proofs.YtmghmpclmphccaaGreatDoor.Pa
namespace Go.Proofs.YtmghmpclmphccaaGreatDoor.Pa
open Go.RowKit Go.Maps Vs
structure Cb (w:World)(b:Nat)(c:Cl):Prop where
 q0:w.cell? ⟨b,0,none⟩=some (.int .i64 c.what)
 q1:w.cell? ⟨b,1,none⟩=some (.string c.nm)
 q2:w.cell? ⟨b,2,none⟩=some (.int .i64 c.p.1)
 q3:w.cell? ⟨b,3,none⟩=some (.int .i64 c.p.2)
 q4:w.cell? ⟨b,4,none⟩=some (.int .i64 c.len)
 q5:w.cell? ⟨b,5,none⟩=some (.int .i64 c.ad)
 q6:w.cell? ⟨b,6,none⟩=some (.string c.ow)
theorem Cb.lt {w:World}{b:Nat}{c:Cl}(h:Cb w b c):b<w.heap.size:=World.block_lt_of_cell? _ _ h.q0
theorem Cb.new (w:World)(c:Cl)(t:Nat):Cb (w.alloc (.cells (clA c) t)) w.heap.size c:=⟨by simp,by simp,by simp,by simp,by simp,by simp,by simp⟩
theorem Cb.but {E:Nat->Prop}{w w':World}{b:Nat}{c:Cl}(h:Cb w b c)(hb:But E w w')(hE:¬E b):Cb w' b c:=
 ⟨(hb.cell (p:=⟨b,0,none⟩) h.lt hE).trans h.q0,(hb.cell (p:=⟨b,1,none⟩) h.lt hE).trans h.q1,(hb.cell (p:=⟨b,2,none⟩) h.lt hE).trans h.q2,(hb.cell (p:=⟨b,3,none⟩) h.lt hE).trans h.q3,(hb.cell (p:=⟨b,4,none⟩) h.lt hE).trans h.q4,(hb.cell (p:=⟨b,5,none⟩) h.lt hE).trans h.q5,(hb.cell (p:=⟨b,6,none⟩) h.lt hE).trans h.q6⟩
theorem Cb.step {w w':World}{b:Nat}{c:Cl}(h:Cb w b c)(hb:Below w.heap.size w w'):Cb w' b c:=h.but (E:=fun _=>False) (.below hb) id
section
variable {T:Td}{w:World}{F:Nat->Prop}{B:Nat}{d:Dk}
def Qh (T:Td)(F1:Nat->Prop)(w1:World)(B:Nat)(d2:Dk)(a:An)(wy:World)(s9:Value):Prop:=
 ∃b pu cu F2,s9=.pointer (some ⟨b,0,none⟩)/\Ab wy b (.int .i64 a.p.1) (.int .i64 a.p.2) (.int .i64 a.ad) (.string a.ow) (.slice pu a.l.length cu)/\Ds T wy F2 B d2/\(∀j,F2 j->Nw F1 w1 wy j)/\But F1 w1 wy/\wy.ownsRow w1.heap.size 31 2 (.slice pu a.l.length cu) a.l.length (pfV a.l)/\(∀j,(Value.slice pu a.l.length cu).ownBlock=some j -> ¬F2 j)/\w1.heap.size<=b /\ ¬F2 b
theorem Nk (V:aG T){F1:Nat->Prop}{w1 w2:World}{d2:Dk}{a:An}{pu:Option Addr}{cu:Nat}{F2:Nat->Prop}(t:Nat)(h2:Ds T w2 F2 B d2)(hn2:∀j,F2 j->Nw F1 w1 w2 j)(b2:But F1 w1 w2)(row:w2.ownsRow w1.heap.size 31 2 (.slice pu a.l.length cu) a.l.length (pfV a.l))(sep:∀j,(Value.slice pu a.l.length cu).ownBlock=some j -> ¬F2 j) :
  Qh T F1 w1 B d2 a (w2.alloc (.cells #[.int .i64 a.p.1,.int .i64 a.p.2,.int .i64 a.ad,.string a.ow,.slice pu a.l.length cu] t)) (.pointer (some ⟨w2.heap.size,0,none⟩)):=by
 have ba:=aj (ah w2) (.cells #[.int .i64 a.p.1,.int .i64 a.p.2,.int .i64 a.ad,.string a.ow,.slice pu a.l.length cu] t)
 have s:=b2.size
 exact⟨w2.heap.size,pu,cu,F2,rfl,Ab.new w2 _ _ _ _ _ t,h2.step V ba,fun j hj=>(hn2 j hj).elim .inl (fun g=>.inr ⟨g.1,Nat.lt_of_lt_of_le g.2 ba.size⟩),b2.step ba,row.alloc _,sep,s,fun q=>by have:=h2.lt _ q;omega⟩
theorem DW (V:aG T){F1:Nat->Prop}{w1 wx w2:World}{d2:Dk}{a:An}{pu:Option Addr}{cu:Nat}{F2:Nat->Prop}{v0 v1 v2 v3 v4:Value}(en:En w1)(bx:Below w1.heap.size w1 wx)(lx:w1.heap.size<wx.heap.size)(hF:∀j,F1 j->j<w1.heap.size)(h2:Ds T w2 F2 B d2)(hn2:∀j,F2 j->Nw F1 wx w2 j)(b2:But F1 wx w2)(ab:Ab w2 w1.heap.size v0 v1 v2 v3 v4)(row:w2.ownsRow wx.heap.size 31 2 (.slice pu a.l.length cu) a.l.length (pfV a.l))(sep:∀j,(Value.slice pu a.l.length cu).ownBlock=some j -> ¬F2 j) :
  Qh T F1 w1 B d2 a (((((w2.setCell ⟨w1.heap.size,0,none⟩ (.int .i64 a.p.1)).setCell ⟨w1.heap.size,1,none⟩ (.int .i64 a.p.2)).setCell ⟨w1.heap.size,2,none⟩ (.int .i64 a.ad)).setCell ⟨w1.heap.size,3,none⟩ (.string a.ow)).setCell ⟨w1.heap.size,4,none⟩ (.slice pu a.l.length cu)) (.pointer (some ⟨w1.heap.size,0,none⟩)):=by
 have nb:¬F1 w1.heap.size:=fun q=>by have:=hF _ q;omega
 have hb:=aQ w1.heap.size (But.refl (fun j=>j=w1.heap.size) w2) (.int .i64 a.p.1) (.int .i64 a.p.2) (.int .i64 a.ad) (.string a.ow) (.slice pu a.l.length cu)
 obtain⟨g1,g2,g3⟩:=qQ (F:=F1) (F1:=F1) (w:=w1) (wx:=wx) (ab:=w1.heap.size) V en (.below bx) (fun _ hj=>.inl hj) h2 hn2 b2 (Nat.le_refl _) lx nb hb
 refine⟨w1.heap.size,pu,cu,F2,rfl,ab.all _ _ _ _ _,g1,g2,g3,bK (Nat.le_of_lt lx) (dh row hb (fun j hj q=>by omega)),sep,Nat.le_refl _,fun q=>?_⟩
 rcases hn2 _ q with g|g
 ·exact nb g
 ·have:=g.1;omega
theorem Oc (V:aG T)(c:Cl){H M:Nat}(h:Ds T w F B d)(ok:OkD d)(h1:wt d<=800)(h2:d.ids<=99000)(sz:Spz d)(hh:Hh w H B M)(nH:¬F H)(g1:bgF d=0)(g2:onG d c=0)(g3:cmF (onX d c) (bgN d)=0) :
  Calls Tryz.prog 16 #[.pointer (some ⟨H,0,none⟩),clV c] w fun e w'=>∃u,e=.returned (.tuple #[anV (aI (doP c) (bgD d) (bgN d)) u,.int .i64 (cmN (onX d c) (bgN d)),.nilIface])/\w'.ownsRow w.heap.size 31 2 u (aI (doP c) (bgD d) (bgN d)).l.length (pfV (aI (doP c) (bgD d) (bgN d)).l) /\ ∃F',Ds T w' F' B (cmD (onX d c) (bgN d))/\(∀j,F' j->Nw F w w' j)/\But F w w'/\Hh w' H B M /\ ¬F' H:=by
 obtain⟨W,hW⟩:∃W,W=(w.alloc (.cells (clA c) 33)).alloc (.cells #[.int .i64 0,.int .i64 0,.int .i64 0,.string ⟨#[]⟩,.slice none 0 0] 46):=⟨_,rfl⟩
 have bW:Below w.heap.size w W:=by rw[hW];exact aj (aj (ah w) _) _
 obtain⟨bb,hbb⟩:∃bb,bb=w.heap.size:=⟨_,rfl⟩
 have cb:Cb W bb c:=by rw[hW,hbb];exact (Cb.new w c _).step (aj (ah _) _)
 have ab:Ab W (bb+1) (.int .i64 0) (.int .i64 0) (.int .i64 0) (.string ⟨#[]⟩) (.slice none 0 0):=by
  have:=Ab.new (w.alloc (.cells (clA c) 33)) (.int .i64 0) (.int .i64 0) (.int .i64 0) (.string ⟨#[]⟩) (.slice none 0 0) 46
  rw[World.size_alloc] at this
  rw[hW,hbb];exact this
 have hhW:=hh.step bW
 have hW1:=h.step V bW
 have sm0:Sm d:=⟨by omega,by omega⟩
 have KB:=V.begin_ hW1.t ok sm0 hW1.lt
 have KD:=fun (wx:World) (F1:Nat->Prop) (hx:Ds T wx F1 B (bgD d))=>aaK V c (bgN d) hx ok.bg (Xv h1 h2)
 obtain⟨o1,o2,o3,o4⟩:=BU c ok sz
 have KM:=fun (wx:World) (F1:Nat->Prop) (hx:Ds T wx F1 B (onX d c))=>V.commit (bgN d) hx.t o1 ⟨by omega,by omega⟩ hx.lt o4
 rw[g1,aB] at KB
 rw[g3,aB] at KM
 unfold su at KD
 rw[show aF (doP c) (bgD d) (bgN d)=0 from g2,aB,show aH (doP c) (bgD d) (bgN d)=onX d c from rfl] at KD
 have okx:=o1
 clear g1 g2 g3 o1 o2 o3 o4
 have hlb:∀j,F j->j<w.heap.size:=h.lt
 have en:=h.en
 have lW:bb+1<W.heap.size:=ab.lt
 have sW:=bW.size
 generalize aI (doP c) (bgD d) (bgN d)=a at KD ⊢
 generalize cmN (onX d c) (bgN d)=nn at KM ⊢
 generalize cmD (onX d c) (bgN d)=d3 at KM ⊢
 generalize onX d c=d2 at KD KM okx
 generalize bgN d=id1 at KB KD KM
 have HH:=hh.c0
 have HL:=hh.lt
 go_enter Tryz.func16,Tryz.ntmps16
 go_upto_region 4 with (go_at_call 27;rw[<- hW];refine KB.mono ?_;clear KB;rintro e w1 ⟨rfl,hT1,hb1⟩)
 rw[<- hbb]
 have HBB:Hid (bb=w.heap.size):=hbb
 have dj1:=Dj.of hW1 hT1 (fun j hj=>hj) hb1
 obtain⟨F1,hF1,nx1⟩:=dj1.ex
 have nH1:¬F1 H:=fun q=>(nx1 _ q).elim nH (fun g=>by have:=g.1;have:=hhW.lt;omega)
 have nb0:¬F1 bb:=fun q=>(nx1 _ q).elim (fun g=>by have:=hlb _ g;omega) (fun g=>by have:=g.1;omega)
 have nb1:¬F1 (bb+1):=fun q=>(nx1 _ q).elim (fun g=>by have:=hlb _ g;omega) (fun g=>by have:=g.1;omega)
 have hh1:=hhW.but hb1 nH
 have cb1:Cb w1 bb c:=cb.but hb1 (fun q=>by have:=hlb _ q;omega)
 have ab1:=ab.but hb1 (fun q=>by have:=hlb _ q;omega)
 have KD1:=fun (wx:World) (bx:Below w1.heap.size w1 wx)=>KD wx F1 (hF1.step V bx)
 have LT:Hid (∀j,F1 j->j<w1.heap.size):=hF1.lt
 have EN:Hid (En w1):=hF1.en
 clear hW hbb KD HH HL
 go_cut [8,9] from 23 to 32 (fun s8 s9 wy=>s8=.nilIface/\Qh T F1 w1 B d2 a wy s9)
 case first=>
  have sx:∀{wy:World},Hh wy H B M->Cb wy bb c->wy.cell? ⟨H,0,none⟩=some (.pointer (some ⟨B,0,none⟩))/\wy.cell? ⟨bb,0,none⟩=some (.int .i64 c.what)/\wy.cell? ⟨bb,1,none⟩=some (.string c.nm)/\wy.cell? ⟨bb,2,none⟩=some (.int .i64 c.p.1)/\wy.cell? ⟨bb,3,none⟩=some (.int .i64 c.p.2)/\wy.cell? ⟨bb,4,none⟩=some (.int .i64 c.len)/\wy.cell? ⟨bb,5,none⟩=some (.int .i64 c.ad)/\wy.cell? ⟨bb,6,none⟩=some (.string c.ow):=fun a b=>⟨a.c0,b.q0,b.q1,b.q2,b.q3,b.q4,b.q5,b.q6⟩
  have nz1:¬H=w1.heap.size:=fun q=>by have:=hh1.lt;omega
  have nz0:¬bb=w1.heap.size:=fun q=>by have:=cb1.lt;omega
  go_region_held3 (fun wy=>wy.cell? ⟨H,0,none⟩=some (.pointer (some ⟨B,0,none⟩))/\wy.cell? ⟨bb,0,none⟩=some (.int .i64 c.what)/\wy.cell? ⟨bb,1,none⟩=some (.string c.nm)/\wy.cell? ⟨bb,2,none⟩=some (.int .i64 c.p.1)/\wy.cell? ⟨bb,3,none⟩=some (.int .i64 c.p.2)/\wy.cell? ⟨bb,4,none⟩=some (.int .i64 c.len)/\wy.cell? ⟨bb,5,none⟩=some (.int .i64 c.ad)/\wy.cell? ⟨bb,6,none⟩=some (.string c.ow))
   (with_reducible first|exact sx (hh1.step (ah w1).drew) (cb1.step (ah w1).drew)|exact sx (hh1.step (aj (ah w1) _).drew) (cb1.step (aj (ah w1) _).drew)|exact sx (hh1.step (aj (ah w1) _)) (cb1.step (aj (ah w1) _))|exact sx hh1 cb1|exact sx hh3 cb3|exact sx (hh3.step (aj (ah w3) _)) (cb3.step (aj (ah w3) _))|exact sx (hh3.but (aQ w1.heap.size (But.refl (fun j=>j=w1.heap.size) w3) _ _ _ _ _) nz1) (cb3.but (aQ w1.heap.size (But.refl (fun j=>j=w1.heap.size) w3) _ _ _ _ _) nz0))
   (first
    | (go_at_call 32;with_reducible refine (KD1 _ (ah w1).drew).mono ?_;rintro e w3 ⟨u,rfl,F2,h3,hn3,b3,row3,sep3⟩;obtain⟨pu,cu,rfl⟩:=aA row3;have hh3:Hh w3 H B M:=(hh1.step (ah w1).drew).but b3 nH1;have cb3:Cb w3 bb c:=(cb1.step (ah w1).drew).but b3 nb0)
    | (go_at_call 32;with_reducible refine (KD1 _ (aj (ah w1) _).drew).mono ?_;rintro e w3 ⟨u,rfl,F2,h3,hn3,b3,row3,sep3⟩;obtain⟨pu,cu,rfl⟩:=aA row3;have hh3:Hh w3 H B M:=(hh1.step (aj (ah w1) _).drew).but b3 nH1;have cb3:Cb w3 bb c:=(cb1.step (aj (ah w1) _).drew).but b3 nb0;have qx:Ab w3 w1.heap.size (.int .i64 0) (.int .i64 0) (.int .i64 0) (.string ⟨#[]⟩) (.slice none 0 0):=((Ab.new w1 _ _ _ _ _ _).step (ah _).drew).but b3 (fun q=>absurd (LT.out w1.heap.size q) (Nat.lt_irrefl w1.heap.size));obtain⟨x0,x1,x2,x3,x4,y0,y1,y2,y3,y4⟩:=id qx))
  all_goals (
   go_wp2_with fail
   go_meet)
  all_goals (refine⟨rfl,?_⟩)
  all_goals (first
    | exact Nk V _ h3 (fun j hj=>(hn3 j hj).elim .inl .inr) ((But.refl F1 w1).drew.trans b3) row3 sep3
    | exact DW V EN.out (aj (ah w1) _).drew (by simp) LT.out h3 hn3 b3 qx row3 sep3)
 case rest=>
  obtain⟨rfl,b,pu,cu,F2,rfl,abx,h3,hn3,b3,row3,sep3,lb,nb⟩:=hcut
  have hh3:Hh wc H B M:=hh1.but b3 nH1
  have ab3:=ab1.but b3 nb1
  have s1:=hb1.size
  have s3:=b3.size
  have hN1:∀j,F1 j->Nw F w w1 j:=fun j hj=>(nx1 j hj).elim .inl (fun g=>.inr ⟨by have:=g.1;omega,g.2⟩)
  have hB1:But F w w1:=(But.below bW).trans hb1
  have hB3:But F w wc:=hB1.then b3 (fun j hj q=>(hN1 j q).elim id (fun g=>by have:=g.1;omega))
  have hN3:∀j,F2 j->Nw F w wc j:=fun j hj=>(hn3 j hj).elim (fun g=>(hN1 j g).elim .inl (fun q=>.inr ⟨q.1,by have:=q.2;omega⟩)) (fun g=>.inr ⟨by have:=g.1;have:=hB1.size;omega,g.2⟩)
  have nb3:¬F2 (bb+1):=fun q=>(hn3 _ q).elim nb1 (fun g=>by have:=g.1;have:=ab1.lt;omega)
  have nH3:¬F2 H:=fun q=>(hn3 _ q).elim nH1 (fun g=>by have:=g.1;have:=hh1.lt;omega)
  have ne:¬H=bb+1:=fun q=>by have:=hh.lt;have:=HBB.out;omega
  have KM1:=KM wc F2 h3
  have FIN:∀{w4 wf:World},T w4 (Nw F2 wc w4) B d3->But F2 wc w4->But (fun j=>j=bb+1) w4 wf -> ∃F',Ds T wf F' B d3/\(∀j,F' j->Nw F w wf j)/\But F w wf/\Hh wf H B M /\ ¬F' H:=by
   intro w4 wf hT b4 hb
   obtain⟨F5,h5,hn5⟩:=(Dj.of h3 hT (fun j hj=>hj) b4).ex
   obtain⟨q1,q2,q3⟩:=qQ (F:=F) (F1:=F2) (w:=w) (wx:=wc) (ab:=bb+1) V en hB3 hN3 h5 hn5 b4 (by have:=HBB.out;omega) ab3.lt nb3 hb
   exact⟨F5,q1,q2,q3,(hh3.but b4 nH3).but hb ne,fun q=>(hn5 _ q).elim nH3 (fun g=>by have:=g.1;have:=hh3.lt;omega)⟩
  have ROW1:∀{w4 wf:World},But F2 wc w4->But (fun j=>j=bb+1) w4 wf->wf.ownsRow w.heap.size 31 2 (.slice pu a.l.length cu) a.l.length (pfV a.l):=fun b4 hb=>bK (by have:=hB1.size;omega) (dh (Go.Proofs.YtmghmpclmphccaaGreatDoor.dh row3 b4 sep3) hb (fun j hj q=>by have:=ab1.lt;omega))
  have ROW:Hid _:=@ROW1
  clear ROW1
  have HH:=hh3.c0
  have HL:=hh3.lt
  have FH:Hid _:=@FIN
  clear KM KD1 FIN
  go_wp2_with (go_at_call 30;refine KM1.mono ?_;clear KM1;rintro e w4 ⟨rfl,hT4,hb4⟩;have abx4:=abx.but hb4 nb;have ab4:=ab3.but hb4 nb3;obtain⟨e0,e1,e2,e3,e4,ef0,ef1,ef2,ef3,ef4⟩:=id abx4;obtain⟨a0,a1,a2,a3,a4,af0,af1,af2,af3,af4⟩:=id ab4)
  exact bodyPost_ret (v:=.tuple #[anV a (.slice pu a.l.length cu),.int .i64 nn,.nilIface]) (by simp[results,Tryz.results16,go_sem,(ab4.all (.int .i64 a.p.1) (.int .i64 a.p.2) (.int .i64 a.ad) (.string a.ow) (.slice pu a.l.length cu)).c0,(ab4.all (.int .i64 a.p.1) (.int .i64 a.p.2) (.int .i64 a.ad) (.string a.ow) (.slice pu a.l.length cu)).c1,(ab4.all (.int .i64 a.p.1) (.int .i64 a.p.2) (.int .i64 a.ad) (.string a.ow) (.slice pu a.l.length cu)).c2,(ab4.all (.int .i64 a.p.1) (.int .i64 a.p.2) (.int .i64 a.ad) (.string a.ow) (.slice pu a.l.length cu)).c3,(ab4.all (.int .i64 a.p.1) (.int .i64 a.p.2) (.int .i64 a.ad) (.string a.ow) (.slice pu a.l.length cu)).c4]) rfl ⟨.slice pu a.l.length cu,rfl,ROW.out hb4 (aQ _ (But.refl _ _) _ _ _ _ _),FH.out hT4 hb4 (aQ _ (But.refl _ _) _ _ _ _ _)⟩
end
section
variable {T:Td}{w:World}{F:Nat->Prop}{B:Nat}{d:Dk}
theorem Xe (V:aG T)(c:Cl){H M:Nat}(h:Ds T w F B d)(ok:OkD d)(h1:wt d<=800)(h2:d.ids<=99000)(sz:Spz d)(hh:Hh w H B M)(nH:¬F H)(g1:bgF d=0)(g2:onG d c≠0) :
  Calls Tryz.prog 16 #[.pointer (some ⟨H,0,none⟩),clV c] w fun e w'=>e=.returned (.tuple #[anV an0 (.slice none 0 0),.int .i64 0,aC (onG d c)]) /\ ∃F',Ds T w' F' B (bT (onX d c) (bgN d))/\(∀j,F' j->Nw F w w' j)/\But F w w'/\Hh w' H B M /\ ¬F' H:=by
 obtain⟨W,hW⟩:∃W,W=(w.alloc (.cells (clA c) 33)).alloc (.cells #[.int .i64 0,.int .i64 0,.int .i64 0,.string ⟨#[]⟩,.slice none 0 0] 46):=⟨_,rfl⟩
 have bW:Below w.heap.size w W:=by rw[hW];exact aj (aj (ah w) _) _
 obtain⟨bb,hbb⟩:∃bb,bb=w.heap.size:=⟨_,rfl⟩
 have cb:Cb W bb c:=by rw[hW,hbb];exact (Cb.new w c _).step (aj (ah _) _)
 have ab:Ab W (bb+1) (.int .i64 0) (.int .i64 0) (.int .i64 0) (.string ⟨#[]⟩) (.slice none 0 0):=by
  have:=Ab.new (w.alloc (.cells (clA c) 33)) (.int .i64 0) (.int .i64 0) (.int .i64 0) (.string ⟨#[]⟩) (.slice none 0 0) 46
  rw[World.size_alloc] at this
  rw[hW,hbb];exact this
 have hhW:=hh.step bW
 have hW1:=h.step V bW
 have sm0:Sm d:=⟨by omega,by omega⟩
 have KB:=V.begin_ hW1.t ok sm0 hW1.lt
 have KD:=fun (wx:World) (F1:Nat->Prop) (hx:Ds T wx F1 B (bgD d))=>aaK V c (bgN d) hx ok.bg (Xv h1 h2)
 obtain⟨o1,o2,o3,o4⟩:=BU c ok sz
 have KM:=fun (wx:World) (F1:Nat->Prop) (hx:Ds T wx F1 B (onX d c))=>V.abort (bgN d) hx.t o1 ⟨by omega,by omega⟩ hx.lt
 rw[ada c g1,aB] at KM
 rw[g1,aB] at KB
 unfold su at KD
 rw[show aF (doP c) (bgD d) (bgN d)=onG d c from rfl,ay g2,show aH (doP c) (bgD d) (bgN d)=onX d c from rfl] at KD
 have okx:=o1
 clear g1 g2 o1 o2 o3 o4
 have hlb:∀j,F j->j<w.heap.size:=h.lt
 have en:=h.en
 have lW:bb+1<W.heap.size:=ab.lt
 have sW:=bW.size
 generalize aI (doP c) (bgD d) (bgN d)=a at KD
 generalize onG d c=g at KD ⊢
 generalize bT (onX d c) (bgN d)=d3 at KM ⊢
 generalize onX d c=d2 at KD KM okx
 generalize bgN d=id1 at KB KD KM
 have HH:=hh.c0
 have HL:=hh.lt
 go_enter Tryz.func16,Tryz.ntmps16
 go_upto_region 4 with (go_at_call 27;rw[<- hW];refine KB.mono ?_;clear KB;rintro e w1 ⟨rfl,hT1,hb1⟩)
 rw[<- hbb]
 have HBB:Hid (bb=w.heap.size):=hbb
 have dj1:=Dj.of hW1 hT1 (fun j hj=>hj) hb1
 obtain⟨F1,hF1,nx1⟩:=dj1.ex
 have nH1:¬F1 H:=fun q=>(nx1 _ q).elim nH (fun g=>by have:=g.1;have:=hhW.lt;omega)
 have nb0:¬F1 bb:=fun q=>(nx1 _ q).elim (fun g=>by have:=hlb _ g;omega) (fun g=>by have:=g.1;omega)
 have nb1:¬F1 (bb+1):=fun q=>(nx1 _ q).elim (fun g=>by have:=hlb _ g;omega) (fun g=>by have:=g.1;omega)
 have hh1:=hhW.but hb1 nH
 have cb1:Cb w1 bb c:=cb.but hb1 (fun q=>by have:=hlb _ q;omega)
 have ab1:=ab.but hb1 (fun q=>by have:=hlb _ q;omega)
 have KD1:=fun (wx:World) (bx:Below w1.heap.size w1 wx)=>KD wx F1 (hF1.step V bx)
 have LT:Hid (∀j,F1 j->j<w1.heap.size):=hF1.lt
 have EN:Hid (En w1):=hF1.en
 clear hW hbb KD HH HL
 go_cut [8,9] from 23 to 32 (fun s8 s9 wy=>s8=aC g/\Qh T F1 w1 B d2 a wy s9)
 case first=>
  have sx:∀{wy:World},Hh wy H B M->Cb wy bb c->wy.cell? ⟨H,0,none⟩=some (.pointer (some ⟨B,0,none⟩))/\wy.cell? ⟨bb,0,none⟩=some (.int .i64 c.what)/\wy.cell? ⟨bb,1,none⟩=some (.string c.nm)/\wy.cell? ⟨bb,2,none⟩=some (.int .i64 c.p.1)/\wy.cell? ⟨bb,3,none⟩=some (.int .i64 c.p.2)/\wy.cell? ⟨bb,4,none⟩=some (.int .i64 c.len)/\wy.cell? ⟨bb,5,none⟩=some (.int .i64 c.ad)/\wy.cell? ⟨bb,6,none⟩=some (.string c.ow):=fun a b=>⟨a.c0,b.q0,b.q1,b.q2,b.q3,b.q4,b.q5,b.q6⟩
  have nz1:¬H=w1.heap.size:=fun q=>by have:=hh1.lt;omega
  have nz0:¬bb=w1.heap.size:=fun q=>by have:=cb1.lt;omega
  go_region_held3 (fun wy=>wy.cell? ⟨H,0,none⟩=some (.pointer (some ⟨B,0,none⟩))/\wy.cell? ⟨bb,0,none⟩=some (.int .i64 c.what)/\wy.cell? ⟨bb,1,none⟩=some (.string c.nm)/\wy.cell? ⟨bb,2,none⟩=some (.int .i64 c.p.1)/\wy.cell? ⟨bb,3,none⟩=some (.int .i64 c.p.2)/\wy.cell? ⟨bb,4,none⟩=some (.int .i64 c.len)/\wy.cell? ⟨bb,5,none⟩=some (.int .i64 c.ad)/\wy.cell? ⟨bb,6,none⟩=some (.string c.ow))
   (with_reducible first|exact sx (hh1.step (ah w1).drew) (cb1.step (ah w1).drew)|exact sx (hh1.step (aj (ah w1) _).drew) (cb1.step (aj (ah w1) _).drew)|exact sx (hh1.step (aj (ah w1) _)) (cb1.step (aj (ah w1) _))|exact sx hh1 cb1|exact sx hh3 cb3|exact sx (hh3.step (aj (ah w3) _)) (cb3.step (aj (ah w3) _))|exact sx (hh3.but (aQ w1.heap.size (But.refl (fun j=>j=w1.heap.size) w3) _ _ _ _ _) nz1) (cb3.but (aQ w1.heap.size (But.refl (fun j=>j=w1.heap.size) w3) _ _ _ _ _) nz0))
   (first
    | (go_at_call 32;with_reducible refine (KD1 _ (ah w1).drew).mono ?_;rintro e w3 ⟨u,rfl,F2,h3,hn3,b3,row3,sep3⟩;obtain⟨pu,cu,rfl⟩:=aA row3;have hh3:Hh w3 H B M:=(hh1.step (ah w1).drew).but b3 nH1;have cb3:Cb w3 bb c:=(cb1.step (ah w1).drew).but b3 nb0)
    | (go_at_call 32;with_reducible refine (KD1 _ (aj (ah w1) _).drew).mono ?_;rintro e w3 ⟨u,rfl,F2,h3,hn3,b3,row3,sep3⟩;obtain⟨pu,cu,rfl⟩:=aA row3;have hh3:Hh w3 H B M:=(hh1.step (aj (ah w1) _).drew).but b3 nH1;have cb3:Cb w3 bb c:=(cb1.step (aj (ah w1) _).drew).but b3 nb0;have qx:Ab w3 w1.heap.size (.int .i64 0) (.int .i64 0) (.int .i64 0) (.string ⟨#[]⟩) (.slice none 0 0):=((Ab.new w1 _ _ _ _ _ _).step (ah _).drew).but b3 (fun q=>absurd (LT.out w1.heap.size q) (Nat.lt_irrefl w1.heap.size));obtain⟨x0,x1,x2,x3,x4,y0,y1,y2,y3,y4⟩:=id qx))
  all_goals (
   go_wp2_with fail
   go_meet)
  all_goals (refine⟨rfl,?_⟩)
  all_goals (first
    | exact Nk V _ h3 (fun j hj=>(hn3 j hj).elim .inl .inr) ((But.refl F1 w1).drew.trans b3) row3 sep3
    | exact DW V EN.out (aj (ah w1) _).drew (by simp) LT.out h3 hn3 b3 qx row3 sep3)
 case rest=>
  obtain⟨rfl,b,pu,cu,F2,rfl,abx,h3,hn3,b3,row3,sep3,lb,nb⟩:=hcut
  have hh3:Hh wc H B M:=hh1.but b3 nH1
  have ab3:=ab1.but b3 nb1
  have s1:=hb1.size
  have s3:=b3.size
  have hN1:∀j,F1 j->Nw F w w1 j:=fun j hj=>(nx1 j hj).elim .inl (fun g=>.inr ⟨by have:=g.1;omega,g.2⟩)
  have hB1:But F w w1:=(But.below bW).trans hb1
  have hB3:But F w wc:=hB1.then b3 (fun j hj q=>(hN1 j q).elim id (fun g=>by have:=g.1;omega))
  have hN3:∀j,F2 j->Nw F w wc j:=fun j hj=>(hn3 j hj).elim (fun g=>(hN1 j g).elim .inl (fun q=>.inr ⟨q.1,by have:=q.2;omega⟩)) (fun g=>.inr ⟨by have:=g.1;have:=hB1.size;omega,g.2⟩)
  have nb3:¬F2 (bb+1):=fun q=>(hn3 _ q).elim nb1 (fun g=>by have:=g.1;have:=ab1.lt;omega)
  have nH3:¬F2 H:=fun q=>(hn3 _ q).elim nH1 (fun g=>by have:=g.1;have:=hh1.lt;omega)
  have ne:¬H=bb+1:=fun q=>by have:=hh.lt;have:=HBB.out;omega
  have KM1:=KM wc F2 h3
  have FIN:∀{w4 wf:World},T w4 (Nw F2 wc w4) B d3->But F2 wc w4->But (fun j=>j=bb+1) w4 wf -> ∃F',Ds T wf F' B d3/\(∀j,F' j->Nw F w wf j)/\But F w wf/\Hh wf H B M /\ ¬F' H:=by
   intro w4 wf hT b4 hb
   obtain⟨F5,h5,hn5⟩:=(Dj.of h3 hT (fun j hj=>hj) b4).ex
   obtain⟨q1,q2,q3⟩:=qQ (F:=F) (F1:=F2) (w:=w) (wx:=wc) (ab:=bb+1) V en hB3 hN3 h5 hn5 b4 (by have:=HBB.out;omega) ab3.lt nb3 hb
   exact⟨F5,q1,q2,q3,(hh3.but b4 nH3).but hb ne,fun q=>(hn5 _ q).elim nH3 (fun g=>by have:=g.1;have:=hh3.lt;omega)⟩
  have HH:=hh3.c0
  have HL:=hh3.lt
  have FH:Hid _:=@FIN
  clear KM KD1 FIN
  go_wp2_with (first
   | (go_at_call 29;refine KM1.mono ?_;clear KM1;rintro e w4 ⟨rfl,hT4,hb4⟩;have ab4:=ab3.but hb4 nb3)
   | (go_at_call 35;refine (ZO g _ _ _ (by simp) (by simp)).mono ?_;rintro e w5 ⟨rfl,hw5⟩;have bl5:Below w4.heap.size w4 w5:=(by rw[hw5];exact aj (ah w4) _);have ab5:=ab4.step bl5;clear hw5;obtain⟨a0,a1,a2,a3,a4,af0,af1,af2,af3,af4⟩:=id ab5))
  exact bodyPost_ret (v:=.tuple #[anV an0 (.slice none 0 0),.int .i64 0,aC g]) (by simp[results,Tryz.results16,go_sem,an0,(ab5.all (.int .i64 0) (.int .i64 0) (.int .i64 0) (.string ⟨#[]⟩) (.slice none 0 0)).c0,(ab5.all (.int .i64 0) (.int .i64 0) (.int .i64 0) (.string ⟨#[]⟩) (.slice none 0 0)).c1,(ab5.all (.int .i64 0) (.int .i64 0) (.int .i64 0) (.string ⟨#[]⟩) (.slice none 0 0)).c2,(ab5.all (.int .i64 0) (.int .i64 0) (.int .i64 0) (.string ⟨#[]⟩) (.slice none 0 0)).c3,(ab5.all (.int .i64 0) (.int .i64 0) (.int .i64 0) (.string ⟨#[]⟩) (.slice none 0 0)).c4];rfl) rfl ⟨rfl,FH.out hT4 hb4 (aQ _ (But.below bl5) _ _ _ _ _)⟩
end
section
variable {T:Td}{w:World}{F:Nat->Prop}{B:Nat}{d:Dk}
theorem Y4 (V:aG T)(c:Cl){H M:Nat}(h:Ds T w F B d)(ok:OkD d)(h1:wt d<=800)(h2:d.ids<=99000)(hh:Hh w H B M)(nH:¬F H)(g1:bgF d≠0) :
  Calls Tryz.prog 16 #[.pointer (some ⟨H,0,none⟩),clV c] w fun e w'=>e=.returned (.tuple #[anV an0 (.slice none 0 0),.int .i64 0,aC (bgF d)]) /\ ∃F',Ds T w' F' B (bgD d)/\(∀j,F' j->Nw F w w' j)/\But F w w'/\Hh w' H B M /\ ¬F' H:=by
 obtain⟨W,hW⟩:∃W,W=(w.alloc (.cells (clA c) 33)).alloc (.cells #[.int .i64 0,.int .i64 0,.int .i64 0,.string ⟨#[]⟩,.slice none 0 0] 46):=⟨_,rfl⟩
 have bW:Below w.heap.size w W:=by rw[hW];exact aj (aj (ah w) _) _
 obtain⟨bb,hbb⟩:∃bb,bb=w.heap.size:=⟨_,rfl⟩
 have ab:Ab W (bb+1) (.int .i64 0) (.int .i64 0) (.int .i64 0) (.string ⟨#[]⟩) (.slice none 0 0):=by
  have:=Ab.new (w.alloc (.cells (clA c) 33)) (.int .i64 0) (.int .i64 0) (.int .i64 0) (.string ⟨#[]⟩) (.slice none 0 0) 46
  rw[World.size_alloc] at this
  rw[hW,hbb];exact this
 have hhW:=hh.step bW
 have hW1:=h.step V bW
 have sm0:Sm d:=⟨by omega,by omega⟩
 have KB:=V.begin_ hW1.t ok sm0 hW1.lt
 rw[ay g1] at KB
 have lW:bb+1<W.heap.size:=ab.lt
 have nb1:¬F (bb+1):=fun q=>by have:=h.lt _ q;omega
 have ne:¬H=bb+1:=fun q=>by have:=hh.lt;omega
 have FIN:∀{w1 wf:World},T w1 (Nw F W w1) B (bgD d)->But F W w1->But (fun j=>j=bb+1) w1 wf -> ∃F',Ds T wf F' B (bgD d)/\(∀j,F' j->Nw F w wf j)/\But F w wf/\Hh wf H B M /\ ¬F' H:=by
  intro w1 wf hT b1 hb
  obtain⟨F5,h5,hn5⟩:=(Dj.of hW1 hT (fun j hj=>hj) b1).ex
  obtain⟨q1,q2,q3⟩:=qQ (F:=F) (F1:=F) (w:=w) (wx:=W) (ab:=bb+1) V h.en (.below bW) (fun _ hj=>.inl hj) h5 hn5 b1 (by omega) lW nb1 hb
  exact⟨F5,q1,q2,q3,(hhW.but b1 nH).but hb ne,fun q=>(hn5 _ q).elim nH (fun g=>by have:=g.1;have:=hhW.lt;omega)⟩
 have FH:Hid _:=@FIN
 clear FIN
 generalize bgN d=id1 at KB
 generalize bgF d=g at KB ⊢
 subst hbb
 have HH:=hh.c0
 have HL:=hh.lt
 go_enter Tryz.func16,Tryz.ntmps16
 go_wp2_with (go_at_call 27;rw[<- hW];refine KB.mono ?_;clear KB;rintro e w1 ⟨rfl,hT1,hb1⟩;have ab1:=ab.but hb1 (fun q=>nb1 q);obtain⟨a0,a1,a2,a3,a4,af0,af1,af2,af3,af4⟩:=id ab1)
 exact bodyPost_ret (v:=.tuple #[anV an0 (.slice none 0 0),.int .i64 0,aC g]) (by simp[results,Tryz.results16,go_sem,an0,(ab1.all (.int .i64 0) (.int .i64 0) (.int .i64 0) (.string ⟨#[]⟩) (.slice none 0 0)).c0,(ab1.all (.int .i64 0) (.int .i64 0) (.int .i64 0) (.string ⟨#[]⟩) (.slice none 0 0)).c1,(ab1.all (.int .i64 0) (.int .i64 0) (.int .i64 0) (.string ⟨#[]⟩) (.slice none 0 0)).c2,(ab1.all (.int .i64 0) (.int .i64 0) (.int .i64 0) (.string ⟨#[]⟩) (.slice none 0 0)).c3,(ab1.all (.int .i64 0) (.int .i64 0) (.int .i64 0) (.string ⟨#[]⟩) (.slice none 0 0)).c4];rfl) rfl ⟨rfl,FH.out hT1 hb1 (aQ _ (But.refl _ _) _ _ _ _ _)⟩
theorem XZ (V:aG T)(c:Cl){H M:Nat}(h:Ds T w F B d)(ok:OkD d)(h1:wt d<=800)(h2:d.ids<=99000)(sz:Spz d)(hh:Hh w H B M)(nH:¬F H)(g1:bgF d=0)(g2:onG d c=0)(g3:cmF (onX d c) (bgN d)≠0) :
  Calls Tryz.prog 16 #[.pointer (some ⟨H,0,none⟩),clV c] w fun e w'=>e=.returned (.tuple #[anV an0 (.slice none 0 0),.int .i64 0,aC (cmF (onX d c) (bgN d))]) /\ ∃F',Ds T w' F' B (cmD (onX d c) (bgN d))/\(∀j,F' j->Nw F w w' j)/\But F w w'/\Hh w' H B M /\ ¬F' H:=by
 obtain⟨W,hW⟩:∃W,W=(w.alloc (.cells (clA c) 33)).alloc (.cells #[.int .i64 0,.int .i64 0,.int .i64 0,.string ⟨#[]⟩,.slice none 0 0] 46):=⟨_,rfl⟩
 have bW:Below w.heap.size w W:=by rw[hW];exact aj (aj (ah w) _) _
 obtain⟨bb,hbb⟩:∃bb,bb=w.heap.size:=⟨_,rfl⟩
 have cb:Cb W bb c:=by rw[hW,hbb];exact (Cb.new w c _).step (aj (ah _) _)
 have ab:Ab W (bb+1) (.int .i64 0) (.int .i64 0) (.int .i64 0) (.string ⟨#[]⟩) (.slice none 0 0):=by
  have:=Ab.new (w.alloc (.cells (clA c) 33)) (.int .i64 0) (.int .i64 0) (.int .i64 0) (.string ⟨#[]⟩) (.slice none 0 0) 46
  rw[World.size_alloc] at this
  rw[hW,hbb];exact this
 have hhW:=hh.step bW
 have hW1:=h.step V bW
 have sm0:Sm d:=⟨by omega,by omega⟩
 have KB:=V.begin_ hW1.t ok sm0 hW1.lt
 have KD:=fun (wx:World) (F1:Nat->Prop) (hx:Ds T wx F1 B (bgD d))=>aaK V c (bgN d) hx ok.bg (Xv h1 h2)
 obtain⟨o1,o2,o3,o4⟩:=BU c ok sz
 have KM:=fun (wx:World) (F1:Nat->Prop) (hx:Ds T wx F1 B (onX d c))=>V.commit (bgN d) hx.t o1 ⟨by omega,by omega⟩ hx.lt o4
 rw[g1,aB] at KB
 rw[ay g3] at KM
 unfold su at KD
 rw[show aF (doP c) (bgD d) (bgN d)=0 from g2,aB,show aH (doP c) (bgD d) (bgN d)=onX d c from rfl] at KD
 have okx:=o1
 clear g1 g2 g3 o1 o2 o3 o4
 have hlb:∀j,F j->j<w.heap.size:=h.lt
 have en:=h.en
 have lW:bb+1<W.heap.size:=ab.lt
 have sW:=bW.size
 generalize aI (doP c) (bgD d) (bgN d)=a at KD
 generalize cmN (onX d c) (bgN d)=nn at KM
 generalize cmF (onX d c) (bgN d)=g at KM ⊢
 generalize cmD (onX d c) (bgN d)=d3 at KM ⊢
 generalize onX d c=d2 at KD KM okx
 generalize bgN d=id1 at KB KD KM
 have HH:=hh.c0
 have HL:=hh.lt
 go_enter Tryz.func16,Tryz.ntmps16
 go_upto_region 4 with (go_at_call 27;rw[<- hW];refine KB.mono ?_;clear KB;rintro e w1 ⟨rfl,hT1,hb1⟩)
 rw[<- hbb]
 have HBB:Hid (bb=w.heap.size):=hbb
 have dj1:=Dj.of hW1 hT1 (fun j hj=>hj) hb1
 obtain⟨F1,hF1,nx1⟩:=dj1.ex
 have nH1:¬F1 H:=fun q=>(nx1 _ q).elim nH (fun g=>by have:=g.1;have:=hhW.lt;omega)
 have nb0:¬F1 bb:=fun q=>(nx1 _ q).elim (fun g=>by have:=hlb _ g;omega) (fun g=>by have:=g.1;omega)
 have nb1:¬F1 (bb+1):=fun q=>(nx1 _ q).elim (fun g=>by have:=hlb _ g;omega) (fun g=>by have:=g.1;omega)
 have hh1:=hhW.but hb1 nH
 have cb1:Cb w1 bb c:=cb.but hb1 (fun q=>by have:=hlb _ q;omega)
 have ab1:=ab.but hb1 (fun q=>by have:=hlb _ q;omega)
 have KD1:=fun (wx:World) (bx:Below w1.heap.size w1 wx)=>KD wx F1 (hF1.step V bx)
 have LT:Hid (∀j,F1 j->j<w1.heap.size):=hF1.lt
 have EN:Hid (En w1):=hF1.en
 clear hW hbb KD HH HL
 go_cut [8,9] from 23 to 32 (fun s8 s9 wy=>s8=.nilIface/\Qh T F1 w1 B d2 a wy s9)
 case first=>
  have sx:∀{wy:World},Hh wy H B M->Cb wy bb c->wy.cell? ⟨H,0,none⟩=some (.pointer (some ⟨B,0,none⟩))/\wy.cell? ⟨bb,0,none⟩=some (.int .i64 c.what)/\wy.cell? ⟨bb,1,none⟩=some (.string c.nm)/\wy.cell? ⟨bb,2,none⟩=some (.int .i64 c.p.1)/\wy.cell? ⟨bb,3,none⟩=some (.int .i64 c.p.2)/\wy.cell? ⟨bb,4,none⟩=some (.int .i64 c.len)/\wy.cell? ⟨bb,5,none⟩=some (.int .i64 c.ad)/\wy.cell? ⟨bb,6,none⟩=some (.string c.ow):=fun a b=>⟨a.c0,b.q0,b.q1,b.q2,b.q3,b.q4,b.q5,b.q6⟩
  have nz1:¬H=w1.heap.size:=fun q=>by have:=hh1.lt;omega
  have nz0:¬bb=w1.heap.size:=fun q=>by have:=cb1.lt;omega
  go_region_held3 (fun wy=>wy.cell? ⟨H,0,none⟩=some (.pointer (some ⟨B,0,none⟩))/\wy.cell? ⟨bb,0,none⟩=some (.int .i64 c.what)/\wy.cell? ⟨bb,1,none⟩=some (.string c.nm)/\wy.cell? ⟨bb,2,none⟩=some (.int .i64 c.p.1)/\wy.cell? ⟨bb,3,none⟩=some (.int .i64 c.p.2)/\wy.cell? ⟨bb,4,none⟩=some (.int .i64 c.len)/\wy.cell? ⟨bb,5,none⟩=some (.int .i64 c.ad)/\wy.cell? ⟨bb,6,none⟩=some (.string c.ow))
   (with_reducible first|exact sx (hh1.step (ah w1).drew) (cb1.step (ah w1).drew)|exact sx (hh1.step (aj (ah w1) _).drew) (cb1.step (aj (ah w1) _).drew)|exact sx (hh1.step (aj (ah w1) _)) (cb1.step (aj (ah w1) _))|exact sx hh1 cb1|exact sx hh3 cb3|exact sx (hh3.step (aj (ah w3) _)) (cb3.step (aj (ah w3) _))|exact sx (hh3.but (aQ w1.heap.size (But.refl (fun j=>j=w1.heap.size) w3) _ _ _ _ _) nz1) (cb3.but (aQ w1.heap.size (But.refl (fun j=>j=w1.heap.size) w3) _ _ _ _ _) nz0))
   (first
    | (go_at_call 32;with_reducible refine (KD1 _ (ah w1).drew).mono ?_;rintro e w3 ⟨u,rfl,F2,h3,hn3,b3,row3,sep3⟩;obtain⟨pu,cu,rfl⟩:=aA row3;have hh3:Hh w3 H B M:=(hh1.step (ah w1).drew).but b3 nH1;have cb3:Cb w3 bb c:=(cb1.step (ah w1).drew).but b3 nb0)
    | (go_at_call 32;with_reducible refine (KD1 _ (aj (ah w1) _).drew).mono ?_;rintro e w3 ⟨u,rfl,F2,h3,hn3,b3,row3,sep3⟩;obtain⟨pu,cu,rfl⟩:=aA row3;have hh3:Hh w3 H B M:=(hh1.step (aj (ah w1) _).drew).but b3 nH1;have cb3:Cb w3 bb c:=(cb1.step (aj (ah w1) _).drew).but b3 nb0;have qx:Ab w3 w1.heap.size (.int .i64 0) (.int .i64 0) (.int .i64 0) (.string ⟨#[]⟩) (.slice none 0 0):=((Ab.new w1 _ _ _ _ _ _).step (ah _).drew).but b3 (fun q=>absurd (LT.out w1.heap.size q) (Nat.lt_irrefl w1.heap.size));obtain⟨x0,x1,x2,x3,x4,y0,y1,y2,y3,y4⟩:=id qx))
  all_goals (
   go_wp2_with fail
   go_meet)
  all_goals (refine⟨rfl,?_⟩)
  all_goals (first
    | exact Nk V _ h3 (fun j hj=>(hn3 j hj).elim .inl .inr) ((But.refl F1 w1).drew.trans b3) row3 sep3
    | exact DW V EN.out (aj (ah w1) _).drew (by simp) LT.out h3 hn3 b3 qx row3 sep3)
 case rest=>
  obtain⟨rfl,b,pu,cu,F2,rfl,abx,h3,hn3,b3,row3,sep3,lb,nb⟩:=hcut
  have hh3:Hh wc H B M:=hh1.but b3 nH1
  have ab3:=ab1.but b3 nb1
  have s1:=hb1.size
  have s3:=b3.size
  have hN1:∀j,F1 j->Nw F w w1 j:=fun j hj=>(nx1 j hj).elim .inl (fun g=>.inr ⟨by have:=g.1;omega,g.2⟩)
  have hB1:But F w w1:=(But.below bW).trans hb1
  have hB3:But F w wc:=hB1.then b3 (fun j hj q=>(hN1 j q).elim id (fun g=>by have:=g.1;omega))
  have hN3:∀j,F2 j->Nw F w wc j:=fun j hj=>(hn3 j hj).elim (fun g=>(hN1 j g).elim .inl (fun q=>.inr ⟨q.1,by have:=q.2;omega⟩)) (fun g=>.inr ⟨by have:=g.1;have:=hB1.size;omega,g.2⟩)
  have nb3:¬F2 (bb+1):=fun q=>(hn3 _ q).elim nb1 (fun g=>by have:=g.1;have:=ab1.lt;omega)
  have nH3:¬F2 H:=fun q=>(hn3 _ q).elim nH1 (fun g=>by have:=g.1;have:=hh1.lt;omega)
  have ne:¬H=bb+1:=fun q=>by have:=hh.lt;have:=HBB.out;omega
  have KM1:=KM wc F2 h3
  have FIN:∀{w4 wf:World},T w4 (Nw F2 wc w4) B d3->But F2 wc w4->But (fun j=>j=bb+1) w4 wf -> ∃F',Ds T wf F' B d3/\(∀j,F' j->Nw F w wf j)/\But F w wf/\Hh wf H B M /\ ¬F' H:=by
   intro w4 wf hT b4 hb
   obtain⟨F5,h5,hn5⟩:=(Dj.of h3 hT (fun j hj=>hj) b4).ex
   obtain⟨q1,q2,q3⟩:=qQ (F:=F) (F1:=F2) (w:=w) (wx:=wc) (ab:=bb+1) V en hB3 hN3 h5 hn5 b4 (by have:=HBB.out;omega) ab3.lt nb3 hb
   exact⟨F5,q1,q2,q3,(hh3.but b4 nH3).but hb ne,fun q=>(hn5 _ q).elim nH3 (fun g=>by have:=g.1;have:=hh3.lt;omega)⟩
  have HH:=hh3.c0
  have HL:=hh3.lt
  have FH:Hid _:=@FIN
  clear KM KD1 FIN
  go_wp2_with (go_at_call 30;refine KM1.mono ?_;clear KM1;rintro e w4 ⟨rfl,hT4,hb4⟩;have abx4:=abx.but hb4 nb;have ab4:=ab3.but hb4 nb3;obtain⟨e0,e1,e2,e3,e4,ef0,ef1,ef2,ef3,ef4⟩:=id abx4;obtain⟨a0,a1,a2,a3,a4,af0,af1,af2,af3,af4⟩:=id ab4)
  exact bodyPost_ret (v:=.tuple #[anV an0 (.slice none 0 0),.int .i64 0,aC g]) (by simp[results,Tryz.results16,go_sem,an0,(ab4.all (.int .i64 0) (.int .i64 0) (.int .i64 0) (.string ⟨#[]⟩) (.slice none 0 0)).c0,(ab4.all (.int .i64 0) (.int .i64 0) (.int .i64 0) (.string ⟨#[]⟩) (.slice none 0 0)).c1,(ab4.all (.int .i64 0) (.int .i64 0) (.int .i64 0) (.string ⟨#[]⟩) (.slice none 0 0)).c2,(ab4.all (.int .i64 0) (.int .i64 0) (.int .i64 0) (.string ⟨#[]⟩) (.slice none 0 0)).c3,(ab4.all (.int .i64 0) (.int .i64 0) (.int .i64 0) (.string ⟨#[]⟩) (.slice none 0 0)).c4];rfl) rfl ⟨rfl,FH.out hT4 hb4 (aQ _ (But.refl _ _) _ _ _ _ _)⟩
end
end Go.Proofs.YtmghmpclmphccaaGreatDoor.Pa
namespace Go.Proofs.YtmghmpclmphccaaGreatDoor.Pa
open Go.RowKit Go.Maps Go.WideShapes Go.ChangeMaps Vs
abbrev Ses:=List (ByteArray×Int)
def sId:Ses->ByteArray->Option Int
 | [],_=>none
 | x :: r,k=>if k=x.1 then some x.2 else sId r k
def iQ:Ses->ByteArray->Ses
 | [],_=>[]
 | x :: r,k=>if k=x.1 then iQ r k else x :: iQ r k
theorem Dc:∀{S:Ses} {k:ByteArray},sId S k=none↔k ∉ S.map Prod.fst
 | [],k=>by simp[sId]
 | x :: r,k=>by
  rw[sId,List.map_cons,List.mem_cons]
  by_cases e:k=x.1
  ·rw[if_pos e];simp[e]
  ·rw[if_neg e,Dc];simp[e]
theorem Zk {S:Ses}{k:ByteArray}:(sId S k).isSome=true↔k∈S.map Prod.fst:=by
 have:=@Dc S k
 cases e:sId S k with
 | none=>rw[e] at this;simpa using this.1 rfl
 | some i=>rw[e] at this;simp at this;simpa using this
theorem Tc:∀{S:Ses} {k:ByteArray} {i:Int},sId S k=none -> ∀j,sId (S ++ [(k,i)]) j=if j=k then some i else sId S j
 | [],k,i,_,j=>rfl
 | x :: r,k,i,h,j=>by
  rw[sId] at h
  by_cases e:k=x.1
  ·rw[if_pos e] at h;cases h
  ·rw[if_neg e] at h
   show (if j=x.1 then some x.2 else sId (r ++ [(k,i)]) j)=_
   rw[Tc h j]
   show _=if j=k then some i else if j=x.1 then some x.2 else sId r j
   by_cases e1:j=x.1
   ·rw[if_pos e1,if_neg (fun q:j=k=>e (q.symm.trans e1)),if_pos e1]
   ·rw[if_neg e1,if_neg e1]
theorem Nu:∀(S:Ses) (k j:ByteArray),sId (iQ S k) j=if j=k then none else sId S j
 | [],k,j=>by rw[iQ,sId];split <;> rfl
 | x :: r,k,j=>by
  rw[iQ]
  by_cases e:k=x.1
  ·rw[if_pos e,Nu r k j,sId]
   by_cases e1:j=k
   ·rw[if_pos e1,if_pos e1]
   ·rw[if_neg e1,if_neg e1,if_neg (fun q=>e1 (q.trans e.symm))]
  ·rw[if_neg e,sId,Nu r k j,sId]
   by_cases e1:j=x.1
   ·rw[if_pos e1,if_pos e1,if_neg (fun q:j=k=>e (q.symm.trans e1))]
   ·rw[if_neg e1,if_neg e1]
theorem Dq:∀{S:Ses} {k j:ByteArray},j∈(iQ S k).map Prod.fst->j∈S.map Prod.fst
 | [],_,_,h=>h
 | x :: r,k,j,h=>by
  rw[iQ] at h
  rw[List.map_cons,List.mem_cons]
  by_cases e:k=x.1
  ·rw[if_pos e] at h;exact .inr (Dq h)
  ·rw[if_neg e,List.map_cons,List.mem_cons] at h
   exact h.imp id Dq
theorem CG:∀{S:Ses} {k:ByteArray},(S.map Prod.fst).Nodup->((iQ S k).map Prod.fst).Nodup
 | [],_,h=>h
 | x :: r,k,h=>by
  rw[List.map_cons,List.nodup_cons] at h
  rw[iQ]
  by_cases e:k=x.1
  ·rw[if_pos e];exact CG h.2
  ·rw[if_neg e,List.map_cons,List.nodup_cons]
   exact⟨fun q=>h.1 (Dq q),CG h.2⟩
theorem TI {S:Ses}{k:ByteArray}{i:Int}(h:(S.map Prod.fst).Nodup)(hk:sId S k=none):((S ++ [(k,i)]).map Prod.fst).Nodup:=by
 rw[List.map_append,List.nodup_append]
 refine⟨h,by simp,fun a ha b hb e=>?_⟩
 have hb':b=k:=by simpa using hb
 exact Dc.1 hk (by rw[<- hb',<- e];exact ha)
def ML (D:DataW Value)(S:Ses):Prop:=∀k,look D (kS k)=(sId S k).map (fun i=>Value.int .i64 i)
theorem ML.nil:ML (.map []) []:=fun k=>by rw[iD];rfl
theorem Xd {w:World}(t e:TypeId)(ht:Tryz.prog.underlying t=some (.map 9 e)){b n:Nat}{D:DataW Value}(hown:w.ownsMap Tryz.prog 9 aW b n D)(k:ByteArray)(hk:k.size<=maxLen) :
  ∃w',(∀ty,(Builtin.delete_ #[t,9] ty #[.map (some b),.string k]).run Tryz.prog w=.ok (.tuple #[]) w')/\w'.ownsMap Tryz.prog 9 aW b n (D.del (kS k))/\w.grownBy w' (some b)/\w'.heap.size=w.heap.size:=by
 have hkey:keyOf Tryz.prog 9 (.string k)=some (kS k):=by simp[keyOf,mapKey,Tryz.underlying9,hk]
 obtain⟨es,clock,hb,F,hs,hD⟩:=hown
 obtain⟨es',hrun,F',hle,hdel,_⟩:=Maps.fit_drop (ty:=0) keyed ht hb F hkey
 refine⟨_,fun ty=>?_,⟨es',clock,heap_setBlock_same hb _,F',Nat.le_trans hle hs,by rw[hD,DataW.del_eq,hdel]⟩,⟨rfl,rfl,rfl,by simp[setBlock],fun k _ hk=>heap_setBlock_other hb _ (fun g=>hk (by rw[g]))⟩,by simp[setBlock]⟩
 rw[<- hrun];rfl
structure HlX (T:Td)(w:World)(G:Nat->Prop)(H:Nat)(d:Dk)(S:Ses)(F:Nat->Prop)(B M n:Nat)(D:DataW Value):Prop where
 ds:Ds T w F B d
 hh:Hh w H B M
 mp:w.ownsMap Tryz.prog 9 aW M n D
 sr:ML D S
 nH:¬F H
 nM:¬F M
 ne:H≠M
 gs:∀j,G j↔F j \/ j=H \/ j=M
 nd:(S.map Prod.fst).Nodup
 no:∀j,G j -> ¬Gl j
def Hl (T:Td)(w:World)(G:Nat->Prop)(H:Nat)(d:Dk)(S:Ses):Prop:=∃F B M n D,HlX T w G H d S F B M n D
def Hp (T:Td)(G:Nat->Prop)(H:Nat)(w w':World)(d:Dk)(S:Ses):Prop:=∃G',Hl T w' G' H d S/\(∀j,G' j->Nw G w w' j)/\But G w w'
section
variable {T:Td}{w w':World}{G F:Nat->Prop}{H B M n:Nat}{D:DataW Value}{d:Dk}{S:Ses}
theorem HlX.ltM (h:HlX T w G H d S F B M n D):M<w.heap.size:=h.mp.lt
theorem HlX.lt (h:HlX T w G H d S F B M n D){j:Nat}(hj:G j):j<w.heap.size:=by
 rcases (h.gs j).1 hj with q|q|q
 ·exact h.ds.lt j q
 ·rw[q];exact h.hh.lt
 ·rw[q];exact h.ltM
theorem Hl.lt (h:Hl T w G H d S){j:Nat}(hj:G j):j<w.heap.size:=by
 obtain⟨F,B,M,n,D,hx⟩:=h
 exact hx.lt hj
theorem Hl.en (h:Hl T w G H d S):En w:=by
 obtain⟨F,B,M,n,D,hx⟩:=h
 exact hx.ds.en
theorem Hl.but (V:aG T){E:Nat->Prop}(h:Hl T w G H d S)(hb:But E w w')(hE:∀j,G j -> ¬E j)(en:En w'):Hl T w' G H d S:=by
 obtain⟨F,B,M,n,D,hx⟩:=h
 exact⟨F,B,M,n,D,⟨⟨V.but hx.ds.t hb (fun j _ hj=>hE j ((hx.gs j).2 (.inl hj))),fun j hj=>Nat.lt_of_lt_of_le (hx.ds.lt j hj) hb.size,hx.ds.no,en⟩,hx.hh.but hb (hE H ((hx.gs H).2 (.inr (.inl rfl)))),dB hx.mp hb (hE M ((hx.gs M).2 (.inr (.inr rfl)))),hx.sr,hx.nH,hx.nM,hx.ne,hx.gs,hx.nd,hx.no⟩⟩
theorem Hl.step (V:aG T)(h:Hl T w G H d S)(hb:Below w.heap.size w w'):Hl T w' G H d S:=h.but V (E:=fun _=>False) (.below hb) (fun _ _=>id) (h.en.step hb)
theorem HlX.step (V:aG T)(h:HlX T w G H d S F B M n D)(hb:Below w.heap.size w w'):HlX T w' G H d S F B M n D:=⟨h.ds.step V hb,h.hh.step hb,dB (F:=fun _=>False) h.mp (.below hb) id,h.sr,h.nH,h.nM,h.ne,h.gs,h.nd,h.no⟩
theorem HlX.Qn {d':Dk}{F':Nat->Prop}(h:HlX T w G H d S F B M n D)(hd:Ds T w' F' B d')(hn:∀j,F' j->Nw F w w' j)(hb:But F w w'):Hp T G H w w' d' S:=by
 have nw:∀{j},F' j->j<w.heap.size->F j:=fun hj hl=>(hn _ hj).elim id (fun q=>by have:=q.1;omega)
 have lH:=h.hh.lt
 have lM:=h.ltM
 refine⟨fun j=>F' j \/ j=H \/ j=M,⟨F',B,M,n,D,hd,h.hh.but hb h.nH,dB h.mp hb h.nM,h.sr,fun q=>h.nH (nw q lH),fun q=>h.nM (nw q lM),h.ne,fun j=>Iff.rfl,h.nd,fun j hj=>?_⟩,fun j hj=>?_,hb.mono (fun j _ hj=>(h.gs j).2 (.inl hj))⟩
 ·rcases hj with q|q|q
  ·exact hd.no j q
  ·exact h.no j ((h.gs j).2 (.inr (.inl q)))
  ·exact h.no j ((h.gs j).2 (.inr (.inr q)))
 ·rcases hj with q|q|q
  ·exact (hn j q).imp (fun g=>(h.gs j).2 (.inl g)) id
  ·exact .inl ((h.gs j).2 (.inr (.inl q)))
  ·exact .inl ((h.gs j).2 (.inr (.inr q)))
theorem HlX.ses (V:aG T){S':Ses}{n':Nat}{D':DataW Value}(h:HlX T w G H d S F B M n D)(hb:But (fun j=>j=M) w w')(ho:w'.ownsMap Tryz.prog 9 aW M n' D')(hr:ML D' S')(hn:(S'.map Prod.fst).Nodup):Hp T G H w w' d S':=by
 have gM:G M:=(h.gs M).2 (.inr (.inr rfl))
 have en:En w':=h.ds.en.but hb (fun j hj=>by rw[hj];exact h.no M gM)
 refine⟨G,⟨F,B,M,n',D',⟨V.but h.ds.t hb (fun j _ hj q=>h.nM (q ▸ hj)),fun j hj=>Nat.lt_of_lt_of_le (h.ds.lt j hj) hb.size,h.ds.no,en⟩,h.hh.but hb h.ne,ho,hr,h.nH,h.nM,h.ne,h.gs,hn,h.no⟩,fun j hj=>.inl hj,hb.mono (fun j _ hj=>by rw[hj];exact gM)⟩
theorem Hp.refl (h:Hl T w G H d S):Hp T G H w w d S:=⟨G,h,fun _ hj=>.inl hj,But.refl _ _⟩
theorem Hp.then {G1:Nat->Prop}{w1 w2:World}{d2:Dk}{S2:Ses}(hn:∀j,G1 j->Nw G w w1 j)(hb:But G w w1)(k:Hp T G1 H w1 w2 d2 S2):Hp T G H w w2 d2 S2:=by
 obtain⟨G2,h2,n2,b2⟩:=k
 have s1:=hb.size
 have s2:=b2.size
 refine⟨G2,h2,fun j hj=>?_,hb.then b2 (fun j hj q=>(hn j q).elim id (fun g=>by have:=g.1;omega))⟩
 rcases n2 j hj with g|g
 ·rcases hn j g with q|q
  ·exact .inl q
  ·exact .inr ⟨q.1,by omega⟩
 ·exact .inr ⟨by omega,g.2⟩
theorem Hp.step (V:aG T){w2:World}(h:Hp T G H w w' d S)(hb:Below w'.heap.size w' w2):Hp T G H w w2 d S:=by
 obtain⟨G',h1,n1,b1⟩:=h
 exact⟨G',h1.step V hb,fun j hj=>(n1 j hj).imp id (fun q=>⟨q.1,Nat.lt_of_lt_of_le q.2 hb.size⟩),b1.step hb⟩
theorem Hp.ahead {w1:World}(hb:Below w.heap.size w w1)(k:Hp T G H w1 w' d S):Hp T G H w w' d S:=Hp.then (G1:=G) (fun _ hj=>.inl hj) (.below hb) k
theorem aa0 (V:aG T)(room:Int)(en:En w)(h0:0<=room)(h1:room<=100000) :
  Calls Tryz.prog 7 #[.int .i64 room] w fun e w'=>∃H G,e=.returned (.tuple #[.pointer (some ⟨H,0,none⟩),.nilIface])/\Hl T w' G H (dk0 room) []/\(∀j,G j->w.heap.size<=j)/\Below w.heap.size w w':=by
 refine (adT V room en h0 h1).mono ?_
 rintro e w' ⟨H,B,M,F,rfl,ds,hh,mp,nH,nM,ne,l1,l2,l3,hb⟩
 have gl:∀{j},w.heap.size<=j -> ¬Gl j:=fun hj q=>by have:=en.lt q;omega
 refine⟨H,fun j=>F j \/ j=H \/ j=M,rfl,⟨F,B,M,0,.map [],ds,hh,mp,ML.nil,nH,nM,ne,fun _=>Iff.rfl,List.nodup_nil,fun j hj=>gl ?_⟩,fun j hj=>?_,hb⟩
 all_goals (rcases hj with q|q|q;exact l1 j q;rw[q];exact l2;rw[q];exact l3)
theorem Yg (V:aG T)(c:Cl)(h:Hl T w G H d S)(ok:OkD d)(h1:wt d<=800)(h2:d.ids<=99000)(sz:Spz d) :
  Calls Tryz.prog 16 #[.pointer (some ⟨H,0,none⟩),clV c] w fun e w'=>∃u,e=.returned (.tuple #[anV (onA d c) u,.int .i64 (onN d c),ev (onF d c)])/\w'.ownsRow w.heap.size 31 2 u (onA d c).l.length (pfV (onA d c).l)/\Hp T G H w w' (onD d c) S:=by
 obtain⟨F,B,M,n,D,hx⟩:=h
 by_cases g1:bgF d=0
 ·by_cases g2:onG d c=0
  ·by_cases g3:cmF (onX d c) (bgN d)=0
   ·have e1:onF d c=0:=by rw[onF,if_pos g1,if_pos g2,g3]
    have e2:onD d c=cmD (onX d c) (bgN d):=by rw[onD,if_pos g1,if_pos g2]
    rw[onA,onN,if_pos e1,if_pos e1,e1,e2,aB]
    refine (Oc V c hx.ds ok h1 h2 sz hx.hh hx.nH g1 g2 g3).mono ?_
    rintro e w' ⟨u,rfl,row,F',k1,k2,k3,_,_⟩
    exact⟨u,rfl,row,hx.Qn k1 k2 k3⟩
   ·have e1:onF d c=cmF (onX d c) (bgN d):=by rw[onF,if_pos g1,if_pos g2]
    have e2:onD d c=cmD (onX d c) (bgN d):=by rw[onD,if_pos g1,if_pos g2]
    rw[onA,onN,if_neg (by rw[e1];exact g3),if_neg (by rw[e1];exact g3),e1,e2,ay g3]
    refine (XZ V c hx.ds ok h1 h2 sz hx.hh hx.nH g1 g2 g3).mono ?_
    rintro e w' ⟨rfl,F',k1,k2,k3,_,_⟩
    exact⟨_,rfl,World.ownsRow_nil _ _ _ _,hx.Qn k1 k2 k3⟩
  ·have e1:onF d c=onG d c:=by rw[onF,if_pos g1,if_neg g2]
   have e2:onD d c=bT (onX d c) (bgN d):=by rw[onD,if_pos g1,if_neg g2]
   rw[onA,onN,if_neg (by rw[e1];exact g2),if_neg (by rw[e1];exact g2),e1,e2,ay g2]
   refine (Xe V c hx.ds ok h1 h2 sz hx.hh hx.nH g1 g2).mono ?_
   rintro e w' ⟨rfl,F',k1,k2,k3,_,_⟩
   exact⟨_,rfl,World.ownsRow_nil _ _ _ _,hx.Qn k1 k2 k3⟩
 ·have e1:onF d c=bgF d:=by rw[onF,if_neg g1]
  have e2:onD d c=bgD d:=by rw[onD,if_neg g1]
  rw[onA,onN,if_neg (by rw[e1];exact g1),if_neg (by rw[e1];exact g1),e1,e2,ay g1]
  refine (Y4 V c hx.ds ok h1 h2 hx.hh hx.nH g1).mono ?_
  rintro e w' ⟨rfl,F',k1,k2,k3,_,_⟩
  exact⟨_,rfl,World.ownsRow_nil _ _ _ _,hx.Qn k1 k2 k3⟩
end
theorem adW (w:World):(zeroValue 3).run Tryz.prog w=.ok (.int .i64 0) w:=by kernel_rfl
def sF (S:Ses)(k:ByteArray):Int:=if (sId S k).isSome=true then 0 else 4
def sN (S:Ses)(k:ByteArray):Int:=(sId S k).getD 0
section
variable {T:Td}{w w':World}{G F:Nat->Prop}{H B M n:Nat}{D:DataW Value}{d:Dk}{S:Ses}
theorem ZB (h:HlX T w G H d S F B M n D)(k:ByteArray)(hk:k.size<=maxLen) :
  Calls Tryz.prog 31 #[.pointer (some ⟨H,0,none⟩),.string k] w fun e w'=>e=.returned (.tuple #[.int .i64 (sN S k),ev (sF S k)])/\w'=w:=by
 have c1:=h.hh.c1
 have l1:=fD 73 3 true Tryz.underlying73 (adW w) h.mp k hk
 rw[h.sr k] at l1
 unfold sN sF
 cases e:sId S k with
 | none=>
  rw[e] at l1
  simp only [if_true,Option.map_none,Option.getD_none,Option.isSome_none] at l1
  rw[if_neg (by simp),show ev 4=aC 4 from rfl]
  clear h
  go_enter Tryz.func31,Tryz.ntmps31
  go_wp2
  go_ret2
  exact⟨rfl,rfl⟩
 | some i=>
  rw[e] at l1
  simp only [if_true,Option.map_some,Option.getD_some,Option.isSome_some] at l1
  rw[if_pos (by simp),aB]
  clear h
  go_enter Tryz.func31,Tryz.ntmps31
  go_wp2
  go_ret2
  exact⟨rfl,rfl⟩
theorem afE {D:DataW Value}{S:Ses}(h:ML D S)(k:ByteArray):ML (D.del (kS k)) (iQ S k):=fun j=>by
 rw[Nu]
 by_cases e:j=k
 ·rw[if_pos e,e,Oz];rfl
 ·rw[if_neg e,rM (Tf e)];exact h j
theorem agR (V:aG T)(h:HlX T w G H d S F B M n D)(k:ByteArray)(hk:k.size<=maxLen) :
  Calls Tryz.prog 28 #[.pointer (some ⟨H,0,none⟩),.string k] w fun e w'=>e=.returned (.tuple #[.int .i64 (sN S k),ev (sF S k)])/\Hp T G H w w' d (iQ S k):=by
 have c1:=h.hh.c1
 have K:=ZB h k hk
 obtain⟨w1,hrun,ho1,hg1,hs1⟩:=Xd 73 3 Tryz.underlying73 h.mp k hk
 have P:Hid (Hp T G H w w1 d (iQ S k)):=h.ses V (dL hg1) ho1 (afE h.sr k) (CG h.nd)
 clear ho1 hg1 h
 obtain⟨v,hv,hv1⟩:∃v:Value,Hid (v=ev (sF S k))/\(v=.nilIface \/ v=aC 4):=⟨_,rfl,by unfold sF;split;exact .inl aB;exact .inr rfl⟩
 rw[<- hv.out] at K ⊢
 clear hv
 rcases hv1 with rfl|rfl
 all_goals (
  go_enter Tryz.func28,Tryz.ntmps28
  go_wp2_with (go_at_call 31;refine K.mono ?_;rintro e w2 ⟨rfl,hw⟩;have:=hw.symm;subst this)
  go_ret2
  exact⟨rfl,P.out⟩)
def hoF (d:Dk)(S:Ses)(k:ByteArray):Int:=if Bur.isN k.data.toList=true then (if (sId S k).isSome=true then 6 else bgF d) else 5
def hoD (d:Dk)(S:Ses)(k:ByteArray):Dk:=if Bur.isN k.data.toList=true/\sId S k=none then bgD d else d
def hoS (d:Dk)(S:Ses)(k:ByteArray):Ses:=if hoF d S k=0 then S ++ [(k,bgN d)] else S
def hcF (d:Dk)(S:Ses)(k:ByteArray):Int:=match sId S k with
 | none=>4
 | some i=>cmF d i
def hcN (d:Dk)(S:Ses)(k:ByteArray):Int:=match sId S k with
 | none=>0
 | some i=>cmN d i
def hcD (d:Dk)(S:Ses)(k:ByteArray):Dk:=match sId S k with
 | none=>d
 | some i=>cmD d i
theorem Wx (V:aG T)(h:Hl T w G H d S)(ok:OkD d)(sm:Sm d)(sz:Spz d)(k:ByteArray)(hk:k.size<=maxLen) :
  Calls Tryz.prog 10 #[.pointer (some ⟨H,0,none⟩),.string k] w fun e w'=>e=.returned (.tuple #[.int .i64 (hcN d S k),ev (hcF d S k)])/\Hp T G H w w' (hcD d S k) (iQ S k):=by
 obtain⟨F,B,M,n,D,hx⟩:=h
 have K:=agR V hx k hk
 unfold hcN hcF hcD
 unfold sN sF at K
 cases e:sId S k with
 | none=>
  rw[e] at K
  simp only [Option.getD_none,Option.isSome_none] at K
  rw[if_neg (by simp),show ev 4=aC 4 from rfl] at K
  simp only
  rw[show ev 4=aC 4 from rfl]
  go_enter Tryz.func10,Tryz.ntmps10
  go_wp2_with (go_at_call 28;refine K.mono ?_;clear K;rintro e w1 ⟨rfl,hp⟩)
  go_ret2
  exact⟨rfl,hp⟩
 | some i=>
  rw[e] at K
  simp only [Option.getD_some,Option.isSome_some] at K
  rw[if_pos (by simp),aB] at K
  simp only
  obtain⟨v,hv,hv1⟩:∃v:Value,Hid (v=ev (cmF d i))/\(v=.nilIface \/ ∃f,v=aC f):=⟨_,rfl,by by_cases q:cmF d i=0;exact .inl (by rw[q,aB]);exact .inr ⟨_,ay q⟩⟩
  rw[<- hv.out]
  have K2:∀{w1:World} {F1:Nat->Prop} {B1:Nat},Ds T w1 F1 B1 d->Calls Tryz.prog 30 #[.pointer (some ⟨B1,0,none⟩),.int .i64 i] w1 fun e w'=>e=.returned (.tuple #[.int .i64 (cmN d i),v])/\Dj T F1 w1 w' B1 (cmD d i):=fun hd=>by
   rw[hv.out]
   exact (V.commit i hd.t ok sm hd.lt sz).mono (fun e w' q=>⟨q.1,Dj.of hd q.2.1 (fun j hj=>hj) q.2.2⟩)
  clear hv ok sm sz
  generalize cmN d i=nn at K2 ⊢
  generalize cmD d i=d2 at K2 ⊢
  rcases hv1 with rfl|⟨f,rfl⟩
  all_goals (
   go_enter Tryz.func10,Tryz.ntmps10
   go_wp2_with (first
    | (go_at_call 28;refine K.mono ?_;clear K;rintro e w1 ⟨rfl,G1,⟨F1,B1,M1,n1,D1,hx1⟩,hn1,hb1⟩;have c0:=hx1.hh.c0;have KC:=K2 hx1.ds)
    | (go_at_call 30;refine KC.mono ?_;clear KC;rintro e w2 ⟨rfl,dj⟩))
   go_ret2
   obtain⟨F2,q1,q2⟩:=dj.ex
   exact⟨rfl,Hp.then hn1 hb1 (hx1.Qn q1 q2 dj.bt)⟩)
theorem afK {D:DataW Value}{S:Ses}(hD:IsMap D)(h:ML D S){k:ByteArray}(hk:sId S k=none)(i:Int):ML (D.put (kS k) (.held (.int .i64 i))) (S ++ [(k,i)]):=fun j=>by
 rw[Tc hk]
 by_cases e:j=k
 ·rw[if_pos e,e,zC hD (QH k)];rfl
 ·rw[if_neg e,eG (Tf e)];exact h j
theorem HlX.tight (h:HlX T w G H d S F B M n D):w.ownsMap Tryz.prog 9 aW M S.length D:=by
 have e:Maps.size D=(S.map Prod.fst).length:=Kt h.mp h.nd (fun x=>by rw[h.sr x,Option.isSome_map];exact Zk.symm)
 have:=iR h.mp
 rw[e,List.length_map] at this
 exact this
theorem XC (V:aG T)(h:Hl T w G H d S)(ok:OkD d)(sm:Sm d)(k:ByteArray)(hk:k.size<=maxLen)(hS:S.length<=1000) :
  Calls Tryz.prog 8 #[.pointer (some ⟨H,0,none⟩),.string k] w fun e w'=>e=.returned (ev (hoF d S k))/\Hp T G H w w' (hoD d S k) (hoS d S k):=by
 obtain⟨F,B,M,n,D,hx⟩:=h
 have KN:=zW k w
 unfold hoS hoD hoF
 unfold Bur.nmF at KN
 by_cases e:Bur.isN k.data.toList=true
 ·rw[if_pos e,aB] at KN
  rw[if_pos e]
  have L1:∀{w1:World},Below w.heap.size w w1->_:=fun {w1} hb=>fD 73 3 true Tryz.underlying73 (adW w1) (hx.step V hb).mp k hk
  rw[hx.sr k] at L1
  cases q:sId S k with
  | some i=>
   rw[q] at L1
   simp only [if_true,Option.map_some,Option.getD_some,Option.isSome_some] at L1
   rw[if_pos (by simp),if_neg (by simp),if_neg (by decide),show ev 6=aC 6 from rfl]
   go_enter Tryz.func8,Tryz.ntmps8
   go_wp2_with (go_at_call 26;refine KN.mono ?_;clear KN;rintro e w1 ⟨rfl,hb1⟩;have c1:=(hx.step V hb1).hh.c1;have l1:=L1 hb1)
   go_ret
   exact⟨rfl,Hp.step V (Hp.refl ⟨F,B,M,n,D,hx⟩) hb1⟩
  | none=>
   rw[q] at L1
   simp only [if_true,Option.map_none,Option.getD_none,Option.isSome_none] at L1
   rw[if_neg (by simp),if_pos ⟨e,rfl⟩]
   have K2:∀{w1:World} {F1:Nat->Prop} {B1:Nat},Ds T w1 F1 B1 d->Calls Tryz.prog 27 #[.pointer (some ⟨B1,0,none⟩)] w1 fun e w'=>e=.returned (.tuple #[.int .i64 (bgN d),ev (bgF d)])/\Dj T F1 w1 w' B1 (bgD d):=fun hd=>
    (V.begin_ hd.t ok sm hd.lt).mono (fun e w' q=>⟨q.1,Dj.of hd q.2.1 (fun j hj=>hj) q.2.2⟩)
   have hkey:keyOf Tryz.prog 9 (.string k)=some (kS k):=by simp[keyOf,mapKey,Tryz.underlying9,hk]
   by_cases g:bgF d=0
   ·rw[g,aB] at K2
    rw[if_pos g,g,aB]
    generalize bgN d=id1 at K2 ⊢
    generalize bgD d=d1 at K2 ⊢
    clear ok sm
    go_enter Tryz.func8,Tryz.ntmps8
    go_wp2_with (first
     | (go_at_call 26;refine KN.mono ?_;clear KN;rintro e w1 ⟨rfl,hb1⟩;have hx1:=hx.step V hb1;have c1:=hx1.hh.c1;have c0:=hx1.hh.c0;have l1:=L1 hb1;have KB:=K2 hx1.ds)
     | (go_at_call 27;refine KB.mono ?_;clear KB;rintro e w2 ⟨rfl,dj⟩;obtain⟨F2,q1,q2⟩:=dj.ex;obtain⟨G2,⟨F3,B3,M3,n3,D3,hx2⟩,hn2,hb2⟩:=hx1.Qn q1 q2 dj.bt;have m1:=hx2.hh.c1;have ho2:=hx2.tight;obtain⟨w5,hput,own5,hg5⟩:=ho2.update keyed Tryz.underlying73 (by unfold maxLen;omega) hkey (val:=.int .i64 id1) (d:=.held (.int .i64 id1)) (ps:=[]) rfl))
    go_ret
    exact⟨rfl,Hp.ahead hb1 (Hp.then hn2 hb2 (hx2.ses V (dL hg5) own5 (afK ho2.isMap hx2.sr q _) (TI hx2.nd q)))⟩
   ·rw[ay g] at K2
    rw[if_neg g,ay g]
    generalize bgN d=id1 at K2 ⊢
    generalize bgD d=d1 at K2 ⊢
    generalize bgF d=f at K2 ⊢
    clear ok sm
    go_enter Tryz.func8,Tryz.ntmps8
    go_wp2_with (first
     | (go_at_call 26;refine KN.mono ?_;clear KN;rintro e w1 ⟨rfl,hb1⟩;have hx1:=hx.step V hb1;have c1:=hx1.hh.c1;have c0:=hx1.hh.c0;have l1:=L1 hb1;have KB:=K2 hx1.ds)
     | (go_at_call 27;refine KB.mono ?_;clear KB;rintro e w2 ⟨rfl,dj⟩;obtain⟨F2,q1,q2⟩:=dj.ex))
    go_ret
    exact⟨rfl,Hp.ahead hb1 (hx1.Qn q1 q2 dj.bt)⟩
 ·rw[if_neg e,show ev 5=aC 5 from rfl] at KN
  rw[if_neg e,if_neg (fun q=>e q.1),if_neg (by decide),show ev 5=aC 5 from rfl]
  go_enter Tryz.func8,Tryz.ntmps8
  go_wp2_with (go_at_call 26;refine KN.mono ?_;clear KN;rintro e w1 ⟨rfl,hb1⟩)
  go_ret
  exact⟨rfl,Hp.step V (Hp.refl ⟨F,B,M,n,D,hx⟩) hb1⟩
theorem abX (V:aG T)(h:Hl T w G H d S)(ok:OkD d)(sm:Sm d) :
  Calls Tryz.prog 15 #[.pointer (some ⟨H,0,none⟩)] w fun e w'=>∃(q:Option Addr) (cq:Nat),e=.returned (.slice q (iK d).length cq)/\(iK d).length<=cq/\JU (fun j=>w.heap.size<=j) w' q (iK d)/\Below w.heap.size w w':=by
 obtain⟨F,B,M,n,D,hx⟩:=h
 have c0:=hx.hh.c0
 have K:=V.all hx.ds.t ok sm
 go_enter Tryz.func15,Tryz.ntmps15
 go_wp2_with (go_at_call 34;refine K.mono ?_;clear K;rintro e w1 ⟨q,cq,rfl,h1,h2,h3⟩)
 go_ret
 exact⟨q,cq,rfl,h1,h2,h3⟩
end
end Go.Proofs.YtmghmpclmphccaaGreatDoor.Pa
namespace Go.Proofs.YtmghmpclmphccaaGreatDoor.Pa
open Go.RowKit Go.Maps Vs
def haF (d:Dk)(S:Ses)(k:ByteArray)(c:Cl):Int:=match sId S k with
 | none=>4
 | some i=>aF (doP c) d i
def haA (d:Dk)(S:Ses)(k:ByteArray)(c:Cl):An:=match sId S k with
 | none=>an0
 | some i=>aI (doP c) d i
def haD (d:Dk)(S:Ses)(k:ByteArray)(c:Cl):Dk:=match sId S k with
 | none=>d
 | some i=>aH (doP c) d i
section
variable {T:Td}{w w':World}{G F:Nat->Prop}{H B M n:Nat}{D:DataW Value}{d:Dk}{S:Ses}
theorem acF (V:aG T)(h:Hl T w G H d S)(ok:OkD d)(sm:Sm d)(k:ByteArray)(hk:k.size<=maxLen)(c:Cl) :
  Calls Tryz.prog 11 #[.pointer (some ⟨H,0,none⟩),.string k,clV c] w fun e w'=>∃u,e=.returned (.tuple #[anV (haA d S k c) u,ev (haF d S k c)])/\w'.ownsRow w.heap.size 31 2 u (haA d S k c).l.length (pfV (haA d S k c).l) /\ ∃G',Hl T w' G' H (haD d S k c) S/\(∀j,G' j->Nw G w w' j)/\But G w w' /\ ∀j,u.ownBlock=some j -> ¬G' j:=by
 obtain⟨F,B,M,n,D,hx⟩:=h
 obtain⟨W,hW⟩:∃W,W=(w.alloc (.cells (clA c) 33)).alloc (.cells #[.int .i64 0,.int .i64 0,.int .i64 0,.string ⟨#[]⟩,.slice none 0 0] 46):=⟨_,rfl⟩
 have bW:Below w.heap.size w W:=by rw[hW];exact aj (aj (ah w) _) _
 obtain⟨bb,hbb⟩:∃bb,bb=w.heap.size:=⟨_,rfl⟩
 have cb:Cb W bb c:=by rw[hW,hbb];exact (Cb.new w c _).step (aj (ah _) _)
 have ab:Ab W (bb+1) (.int .i64 0) (.int .i64 0) (.int .i64 0) (.string ⟨#[]⟩) (.slice none 0 0):=by
  have:=Ab.new (w.alloc (.cells (clA c) 33)) (.int .i64 0) (.int .i64 0) (.int .i64 0) (.string ⟨#[]⟩) (.slice none 0 0) 46
  rw[World.size_alloc] at this
  rw[hW,hbb];exact this
 have hxW:=hx.step V bW
 have KF:=ZB hxW k hk
 have lW:bb+1<W.heap.size:=ab.lt
 have hlb:∀j,F j->j<w.heap.size:=hx.ds.lt
 have nb0:¬F bb:=fun q=>by have:=hlb _ q;omega
 have nb1:¬F (bb+1):=fun q=>by have:=hlb _ q;omega
 have lH:=hx.hh.lt
 have lM:=hx.ltM
 unfold haA haF haD
 unfold sN sF at KF
 have FIN:∀{d2:Dk} {F2:Nat->Prop} {wx w3 wf:World} {u:Value} {m:Nat} {xs:List Value},Below W.heap.size W wx->Ds T w3 F2 B d2->(∀j,F2 j->Nw F wx w3 j)->But F wx w3->w3.ownsRow wx.heap.size 31 2 u m xs->(∀j,u.ownBlock=some j -> ¬F2 j)->But (fun j=>j=bb+1) w3 wf->wf.ownsRow w.heap.size 31 2 u m xs /\ ∃G',Hl T wf G' H d2 S/\(∀j,G' j->Nw G w wf j)/\But G w wf /\ ∀j,u.ownBlock=some j -> ¬G' j:=by
  intro d2 F2 wx w3 wf u m xs bx h3 hn3 b3 row sep hb
  have sx:=bx.size
  have sw:=bW.size
  obtain⟨q1,q2,q3⟩:=qQ (F:=F) (F1:=F) (w:=w) (wx:=wx) (ab:=bb+1) V hx.ds.en (.below (ak bW bx)) (fun _ hj=>.inl hj) h3 hn3 b3 (by omega) (by omega) nb1 hb
  have row':wf.ownsRow w.heap.size 31 2 u m xs:=bK (by omega) (dh row hb (fun j hj q=>by omega))
  obtain⟨G',g1,g2,g3⟩:=hx.Qn q1 q2 q3
  refine⟨row',fun j=>F2 j \/ j=H \/ j=M,?_,?_,g3,fun j hj q=>?_⟩
  ·have nw:∀{j},F2 j->j<w.heap.size->F j:=fun hj hl=>(q2 _ hj).elim id (fun q=>by have:=q.1;omega)
   refine⟨F2,B,M,n,D,q1,hx.hh.but q3 hx.nH,dB hx.mp q3 hx.nM,hx.sr,fun q=>hx.nH (nw q lH),fun q=>hx.nM (nw q lM),hx.ne,fun j=>Iff.rfl,hx.nd,fun j hj=>?_⟩
   rcases hj with q|q|q
   ·exact q1.no j q
   ·exact hx.no j ((hx.gs j).2 (.inr (.inl q)))
   ·exact hx.no j ((hx.gs j).2 (.inr (.inr q)))
  ·intro j hj
   rcases hj with q|q|q
   ·exact (q2 j q).imp (fun g=>(hx.gs j).2 (.inl g)) id
   ·exact .inl ((hx.gs j).2 (.inr (.inl q)))
   ·exact .inl ((hx.gs j).2 (.inr (.inr q)))
  ·have hge:wx.heap.size<=j:=(row.lt j hj).1
   rcases q with q|q|q
   ·exact sep j hj q
   ·omega
   ·omega
 have FH:Hid _:=@FIN
 clear FIN
 cases e:sId S k with
 | none=>
  rw[e] at KF
  simp only [Option.getD_none,Option.isSome_none] at KF
  rw[if_neg (by simp),show ev 4=aC 4 from rfl] at KF
  simp only
  rw[show ev 4=aC 4 from rfl]
  obtain⟨a0,a1,a2,a3,a4,af0,af1,af2,af3,af4⟩:=id ab
  have R0:=FH.out (u:=.slice none 0 0) (m:=0) (xs:=[]) (ah W) hxW.ds (fun j hj=>.inl hj) (But.refl _ _) (World.ownsRow_nil _ _ _ _) (fun j hj=>by cases hj) (aQ (bb+1) (But.refl (fun j=>j=bb+1) W) (.int .i64 0) (.int .i64 0) (.int .i64 0) (.string ⟨#[]⟩) (.slice none 0 0))
  have RH:Hid _:=R0
  clear R0
  subst hbb
  go_enter Tryz.func11,Tryz.ntmps11
  go_wp2_with (go_at_call 31;rw[<- hW];refine KF.mono ?_;clear KF hW;rintro e w1 ⟨rfl,hw⟩;have:=hw.symm;subst this)
  exact bodyPost_ret (v:=.tuple #[anV an0 (.slice none 0 0),aC 4]) (by simp[results,Tryz.results11,go_sem,an0,(ab.all (.int .i64 0) (.int .i64 0) (.int .i64 0) (.string ⟨#[]⟩) (.slice none 0 0)).c0,(ab.all (.int .i64 0) (.int .i64 0) (.int .i64 0) (.string ⟨#[]⟩) (.slice none 0 0)).c1,(ab.all (.int .i64 0) (.int .i64 0) (.int .i64 0) (.string ⟨#[]⟩) (.slice none 0 0)).c2,(ab.all (.int .i64 0) (.int .i64 0) (.int .i64 0) (.string ⟨#[]⟩) (.slice none 0 0)).c3,(ab.all (.int .i64 0) (.int .i64 0) (.int .i64 0) (.string ⟨#[]⟩) (.slice none 0 0)).c4];rfl) rfl ⟨_,rfl,RH.out⟩
 | some i=>
  rw[e] at KF
  simp only [Option.getD_some,Option.isSome_some] at KF
  rw[if_pos (by simp),aB] at KF
  simp only
  have KD:=fun (wx:World) (bx:Below W.heap.size W wx)=>aaK V c i (hxW.ds.step V bx) ok sm
  unfold su at KD
  generalize ev (aF (doP c) d i)=vf at KD ⊢
  generalize aI (doP c) d i=a at KD ⊢
  generalize aH (doP c) d i=d2 at KD ⊢
  have hh1:=hxW.hh
  have sx:∀{wy:World},Hh wy H B M->Cb wy bb c->wy.cell? ⟨H,0,none⟩=some (.pointer (some ⟨B,0,none⟩))/\wy.cell? ⟨bb,0,none⟩=some (.int .i64 c.what)/\wy.cell? ⟨bb,1,none⟩=some (.string c.nm)/\wy.cell? ⟨bb,2,none⟩=some (.int .i64 c.p.1)/\wy.cell? ⟨bb,3,none⟩=some (.int .i64 c.p.2)/\wy.cell? ⟨bb,4,none⟩=some (.int .i64 c.len)/\wy.cell? ⟨bb,5,none⟩=some (.int .i64 c.ad)/\wy.cell? ⟨bb,6,none⟩=some (.string c.ow):=fun a b=>⟨a.c0,b.q0,b.q1,b.q2,b.q3,b.q4,b.q5,b.q6⟩
  have LT:Hid (∀j,F j->j<w.heap.size):=hlb
  have HBB:Hid (bb=w.heap.size):=hbb
  have nz1:¬H=bb+1:=fun q=>by omega
  have nz0:¬bb=bb+1:=fun q=>by omega
  go_enter Tryz.func11,Tryz.ntmps11
  go_upto_region 4 with (go_at_call 31;rw[<- hW];refine KF.mono ?_;clear KF hW;rintro e w1 ⟨rfl,hw⟩;have:=hw.symm;subst this)
  rw[<- hbb]
  clear hbb lH lM lW hlb
  go_cut [7] from 20 to 28 (fun s7 wy=>s7=vf /\ ∃pu cu,Ab wy (bb+1) (.int .i64 a.p.1) (.int .i64 a.p.2) (.int .i64 a.ad) (.string a.ow) (.slice pu a.l.length cu)/\wy.ownsRow w.heap.size 31 2 (.slice pu a.l.length cu) a.l.length (pfV a.l) /\ ∃G',Hl T wy G' H d2 S/\(∀j,G' j->Nw G w wy j)/\But G w wy /\ ∀j,(Value.slice pu a.l.length cu).ownBlock=some j -> ¬G' j)
  case first=>
   go_region_held3 (fun wy=>wy.cell? ⟨H,0,none⟩=some (.pointer (some ⟨B,0,none⟩))/\wy.cell? ⟨bb,0,none⟩=some (.int .i64 c.what)/\wy.cell? ⟨bb,1,none⟩=some (.string c.nm)/\wy.cell? ⟨bb,2,none⟩=some (.int .i64 c.p.1)/\wy.cell? ⟨bb,3,none⟩=some (.int .i64 c.p.2)/\wy.cell? ⟨bb,4,none⟩=some (.int .i64 c.len)/\wy.cell? ⟨bb,5,none⟩=some (.int .i64 c.ad)/\wy.cell? ⟨bb,6,none⟩=some (.string c.ow))
    (with_reducible first|exact sx (hh1.step (ah W).drew) (cb.step (ah W).drew)|exact sx hh1 cb|exact sx hh3 cb3|exact sx (hh3.but (aQ (bb+1) (But.refl (fun j=>j=bb+1) w3) _ _ _ _ _) nz1) (cb3.but (aQ (bb+1) (But.refl (fun j=>j=bb+1) w3) _ _ _ _ _) nz0))
    (first
     | (go_at_call 32;with_reducible refine (KD _ (ah W).drew).mono ?_;rintro e w3 ⟨u,rfl,F2,h3,hn3,b3,row3,sep3⟩;obtain⟨pu,cu,rfl⟩:=aA row3;have hh3:Hh w3 H B M:=(hh1.step (ah W).drew).but b3 hx.nH;have cb3:Cb w3 bb c:=(cb.step (ah W).drew).but b3 nb0;have ab3:=(ab.step (ah W).drew).but b3 nb1;obtain⟨x0,x1,x2,x3,x4,y0,y1,y2,y3,y4⟩:=id ab3))
   all_goals (
    go_wp2_with fail
    go_meet)
   all_goals (exact⟨rfl,pu,cu,ab3.all _ _ _ _ _,FH.out (ah _).drew h3 hn3 b3 row3 sep3 (aQ _ (But.refl _ _) _ _ _ _ _)⟩)
  case rest=>
   obtain⟨hs7,pu,cu,abz,R⟩:=hcut
   rw[hs7]
   clear hs7
   have RH:Hid _:=R
   obtain⟨x0,x1,x2,x3,x4,y0,y1,y2,y3,y4⟩:=id abz
   go_wp2_with fail
   exact bodyPost_ret (v:=.tuple #[anV a (.slice pu a.l.length cu),vf]) (by simp[results,Tryz.results11,go_sem,x0,x1,x2,x3,x4]) rfl ⟨_,rfl,RH.out⟩
end
