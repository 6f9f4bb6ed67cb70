/- -/
import Derived.Test.YtcjdoeclblhaeaaGreatDoorRVsMath
import Derived.Test.YtcjdoeclblhaeaaGreatDoorRMpHeld
import Derived.Test.YtcjdoeclblhaeaaGreatDoorRVsBase
import Derived.Test.YtcjdoeclblhaeaaGreatDoorRLwE
import Derived.Test.YtcjdoeclblhaeaaGreatDoorRVsWalkF
import Derived.Test.YtcjdoeclblhaeaaGreatDoorRAppOne
import Derived.Test.YtcjdoeclblhaeaaGreatDoorRDcIdx
import Derived.Test.YtcjdoeclblhaeaaGreatDoorRRowK
import Derived.Lib.SliceRun
set_option maxHeartbeats 4000000
set_option maxRecDepth 100000
namespace Go.Proofs.YtcjdoeclblhaeaaGreatDoor
open Go.RowKit Go.Maps Vs
abbrev chM (c:Chg):Value:=.agg #[.string c.k,.string c.v,.bool c.g]
def OwnR (D:DataW Value) (own:List Chg):Prop:=∀ k,look D (kS k)=(ownC own k).map chM
theorem OwnR.new:OwnR (.map []) []:=fun k=>by rw[look_empty];rfl
theorem OwnR.put {D:DataW Value} {own:List Chg} (h:OwnR D own) (hD:IsMap D) (hr:risC own) (c:Chg):OwnR (D.put (kS c.k) (.held (chM c))) (insC own c):=fun k=>by
 rw[ownC_ins hr]
 by_cases e:k=c.k
 ·rw[if_pos e,e,look_put hD (kS_key _)];rfl
 ·rw[if_neg e,look_put_other (kS_ne e)];exact h k
theorem OwnR.size {w:World} {M n:Nat} {D:DataW Value} {own:List Chg} (h:OwnR D own) (ho:w.ownsMap Tryz.prog 9 anyE M n D) (hr:risC own):Maps.size D=own.length:=by
 have:=size_strs ho (ks:=own.map (·.k)) (List.pairwise_map.2 (hr.imp (fun h=>bl_ne h))) (fun x=>by
  rw[h x,Option.isSome_map]
  constructor
  ·intro hx
   obtain⟨c,hc,rfl⟩:=List.mem_map.1 hx
   rw[ownC_is hr hc];rfl
  ·intro hx
   cases e:ownC own x with
   | none=>rw[e] at hx;cases hx
   | some c=>
    obtain⟨a,b⟩:=ownC_some e
    exact List.mem_map.2 ⟨c,a,b⟩)
 simpa using this
structure TX (w:World) (G:Nat->Prop) (b:Nat) (sees:Int) (v:Value) (qs:List Pr) (M:Nat) (D:DataW Value):Prop where
 gb:G b
 c0:w.cell? ⟨b,0,none⟩=some (.int .i64 sees)
 c1:w.cell? ⟨b,1,none⟩=some v
 c2:w.cell? ⟨b,2,none⟩=some (.map (some M))
 f1:w.frozen? ⟨b,1,none⟩=false
 row:w.ownsRow 0 207 2 v qs.length (prV qs)
 sep:∀ j,v.ownBlock=some j->G j/\j≠b/\j≠M
 gM:G M
 ne:M≠b
 own:∃ n,w.ownsMap Tryz.prog 9 anyE M n D
theorem TX.lt {w:World} {G:Nat->Prop} {b:Nat} {sees:Int} {v:Value} {qs:List Pr} {M:Nat} {D:DataW Value} (h:TX w G b sees v qs M D):b<w.heap.size:=World.block_lt_of_cell? _ _ h.c0
theorem TX.ltM {w:World} {G:Nat->Prop} {b:Nat} {sees:Int} {v:Value} {qs:List Pr} {M:Nat} {D:DataW Value} (h:TX w G b sees v qs M D):M<w.heap.size:=by
 obtain⟨n,ho⟩:=h.own
 exact ho.lt
theorem TX.but {w w':World} {E G:Nat->Prop} {b:Nat} {sees:Int} {v:Value} {qs:List Pr} {M:Nat} {D:DataW Value} (h:TX w G b sees v qs M D) (hb:But E w w') (hE:∀ j,j<w.heap.size->G j -> ¬ E j):TX w' G b sees v qs M D:=by
 have hB:=hE b h.lt h.gb
 obtain⟨n,ho⟩:=h.own
 exact⟨h.gb,(hb.cell (p:=⟨b,0,none⟩) h.lt hB).trans h.c0,(hb.cell (p:=⟨b,1,none⟩) h.lt hB).trans h.c1,(hb.cell (p:=⟨b,2,none⟩) h.lt hB).trans h.c2,(hb.frozen (p:=⟨b,1,none⟩) h.lt hB).trans h.f1,
  row_but h.row hb (fun j hj=>hE j (lw_lt h.row hj).2 (h.sep j hj).1),h.sep,h.gM,h.ne,⟨n,map_but ho hb (hE M h.ltM h.gM)⟩⟩
theorem TX.step {w w':World} {G:Nat->Prop} {b:Nat} {sees:Int} {v:Value} {qs:List Pr} {M:Nat} {D:DataW Value} (h:TX w G b sees v qs M D) (hb:Below w.heap.size w w'):TX w' G b sees v qs M D:=h.but (E:=fun _=>False) (.below hb) (fun _ _ _=>id)
theorem TX.mono {w:World} {G H:Nat->Prop} {b:Nat} {sees:Int} {v:Value} {qs:List Pr} {M:Nat} {D:DataW Value} (h:TX w G b sees v qs M D) (hH:∀ j,j<w.heap.size->G j->H j):TX w H b sees v qs M D:=
 ⟨hH b h.lt h.gb,h.c0,h.c1,h.c2,h.f1,h.row,fun j hj=>⟨hH j (lw_lt h.row hj).2 (h.sep j hj).1,(h.sep j hj).2⟩,hH M h.ltM h.gM,h.ne,h.own⟩
def TxAt (w:World) (G:Nat->Prop) (b:Nat) (o:Ox):Prop:=∃ v qs M D,TX w G b o.sees v qs M D/\AskR qs o/\OwnR D o.own
theorem TxAt.but {w w':World} {E G:Nat->Prop} {b:Nat} {o:Ox} (h:TxAt w G b o) (hb:But E w w') (hE:∀ j,j<w.heap.size->G j -> ¬ E j):TxAt w' G b o:=by
 obtain⟨v,qs,M,D,h1,h2,h3⟩:=h
 exact⟨v,qs,M,D,h1.but hb hE,h2,h3⟩
theorem TxAt.mono {w:World} {G H:Nat->Prop} {b:Nat} {o:Ox} (h:TxAt w G b o) (hH:∀ j,j<w.heap.size->G j->H j):TxAt w H b o:=by
 obtain⟨v,qs,M,D,h1,h2,h3⟩:=h
 exact⟨v,qs,M,D,h1.mono hH,h2,h3⟩
structure DX (w:World) (c:Nat->Int) (B L Tb M:Nat) (D:DataW Value) (ids s:Int) (g:Lg) (vs:List Ver) (top:Int) (ox:Int->Option Ox):Prop where
 cB:c B = -1
 c0:w.cell? ⟨B,0,none⟩=some (.pointer (some ⟨L,0,none⟩))
 c1:w.cell? ⟨B,1,none⟩=some (.pointer (some ⟨Tb,0,none⟩))
 c2:w.cell? ⟨B,2,none⟩=some (.map (some M))
 c3:w.cell? ⟨B,3,none⟩=some (.int .i64 ids)
 c4:w.cell? ⟨B,4,none⟩=some (.int .i64 s)
 fz:∀ i,i<5->w.frozen? ⟨B,i,none⟩=false
 lt:∀ j,c j≠0->j<w.heap.size
 lg:LT w (fun j=>c j = -3) L g
 tb:Tab w (fun j=>c j = -4) Tb vs top
 cM:c M = -2
 own:∃ n,w.ownsMap Tryz.prog 3 anyE M n D
 no:∀ i,ox i=none->look D (kI i)=none
 tx:∀ i o,ox i=some o->1<=i /\ ∃ b,look D (kI i)=some (.pointer (some ⟨b,0,none⟩))/\TxAt w (fun j=>c j=i) b o
def DT (w:World) (F:Nat->Prop) (B:Nat) (d:Dk):Prop:=∃ c L Tb M D,DX w c B L Tb M D d.ids (sfN d) d.lg d.vs d.top (opI d)/\d.top=d.last /\ ∀ j,c j≠0->F j
def rc (c:Nat->Int) (x:Int) (w w':World):Nat->Int:=fun j=>if w.heap.size<=j/\j<w'.heap.size then x else c j
theorem rc_new {c:Nat->Int} {x:Int} {w w':World} {j:Nat} (h:w.heap.size<=j/\j<w'.heap.size):rc c x w w' j=x:=if_pos h
theorem rc_old {c:Nat->Int} {x:Int} {w w':World} {j:Nat} (h:j<w.heap.size):rc c x w w' j=c j:=if_neg (by omega)
theorem rc_F {c:Nat->Int} {x:Int} {F:Nat->Prop} {w w':World} (h:∀ j,c j≠0->F j):∀ j,rc c x w w' j≠0->Nw F w w' j:=fun j hj=>by
 unfold rc at hj
 by_cases e:w.heap.size<=j/\j<w'.heap.size
 ·exact .inr e
 ·rw[if_neg e] at hj;exact .inl (h j hj)
section
variable {w w':World} {c:Nat->Int} {B L Tb M:Nat} {D:DataW Value} {ids s:Int} {g:Lg} {vs:List Ver} {top:Int} {ox:Int->Option Ox}
theorem DX.ltB (h:DX w c B L Tb M D ids s g vs top ox):B<w.heap.size:=World.block_lt_of_cell? _ _ h.c0
theorem DX.but {E:Nat->Prop} (h:DX w c B L Tb M D ids s g vs top ox) (hb:But E w w') (hE:∀ j,j<w.heap.size->c j≠0 -> ¬ E j):DX w' c B L Tb M D ids s g vs top ox:=by
 have hB:=hE B h.ltB (by rw[h.cB];decide)
 obtain⟨n,ho⟩:=h.own
 refine⟨h.cB,(hb.cell (p:=⟨B,0,none⟩) h.ltB hB).trans h.c0,(hb.cell (p:=⟨B,1,none⟩) h.ltB hB).trans h.c1,(hb.cell (p:=⟨B,2,none⟩) h.ltB hB).trans h.c2,(hb.cell (p:=⟨B,3,none⟩) h.ltB hB).trans h.c3,(hb.cell (p:=⟨B,4,none⟩) h.ltB hB).trans h.c4,
  fun i hi=>(hb.frozen (p:=⟨B,i,none⟩) h.ltB hB).trans (h.fz i hi),fun j hj=>Nat.lt_of_lt_of_le (h.lt j hj) hb.size,
  lface.but h.lg hb (fun j hj e=>hE j hj (by rw[e];decide)),h.tb.but hb (fun j hj e=>hE j hj (by rw[e];decide)),h.cM,⟨n,map_but ho hb (hE M ho.lt (by rw[h.cM];decide))⟩,h.no,fun i o hi=>?_⟩
 obtain⟨h1,b,h2,h3⟩:=h.tx i o hi
 exact⟨h1,b,h2,h3.but hb (fun j hj e=>hE j hj (by rw[e];omega))⟩
theorem DX.step (h:DX w c B L Tb M D ids s g vs top ox) (hb:Below w.heap.size w w'):DX w' c B L Tb M D ids s g vs top ox:=h.but (E:=fun _=>False) (.below hb) (fun _ _ _=>id)
structure Re (w':World) (c:Nat->Int) (x:Int) (B L Tb M:Nat) (D:DataW Value) (ids s:Int) (g:Lg) (vs:List Ver) (top:Int) (ox:Int->Option Ox):Prop where
 cB:c B = -1
 cl:x ≠ -1->w'.cell? ⟨B,0,none⟩=some (.pointer (some ⟨L,0,none⟩))/\w'.cell? ⟨B,1,none⟩=some (.pointer (some ⟨Tb,0,none⟩))/\w'.cell? ⟨B,2,none⟩=some (.map (some M))/\w'.cell? ⟨B,3,none⟩=some (.int .i64 ids)/\w'.cell? ⟨B,4,none⟩=some (.int .i64 s) /\ ∀ i,i<5->w'.frozen? ⟨B,i,none⟩=false
 lt:∀ j,c j≠0->j<w'.heap.size
 lg:x ≠ -3->LT w' (fun j=>c j = -3) L g
 tb:x ≠ -4->Tab w' (fun j=>c j = -4) Tb vs top
 cM:c M = -2
 own:x ≠ -2 -> ∃ n,w'.ownsMap Tryz.prog 3 anyE M n D
 tx:∀ i o,ox i=some o->i≠x->1<=i /\ ∃ b,look D (kI i)=some (.pointer (some ⟨b,0,none⟩))/\TxAt w' (fun j=>c j=i) b o
theorem DX.re (h:DX w c B L Tb M D ids s g vs top ox) (x:Int) (hb:But (fun j=>c j=x) w w'):Re w' (rc c x w w') x B L Tb M D ids s g vs top ox:=by
 have hm:∀ y,y≠0 -> ∀ j,j<w'.heap.size->c j=y->rc c x w w' j=y:=fun y hy j _ e=>by rw[rc_old (h.lt j (by rw[e];exact hy)),e]
 have hn:∀ y,y≠x -> ∀ j,j<w.heap.size->c j=y -> ¬ c j=x:=fun y hy j _ e g=>hy (e.symm.trans g)
 obtain⟨n,ho⟩:=h.own
 have hML:=ho.lt
 refine⟨by rw[rc_old h.ltB];exact h.cB,fun hx=>?_,fun j hj=>?_,fun hx=>?_,fun hx=>?_,by rw[rc_old hML];exact h.cM,fun hx=>?_,fun i o hi hx=>?_⟩
 ·have hB:¬ c B=x:=by rw[h.cB];exact fun e=>hx e.symm
  exact⟨(hb.cell (p:=⟨B,0,none⟩) h.ltB hB).trans h.c0,(hb.cell (p:=⟨B,1,none⟩) h.ltB hB).trans h.c1,(hb.cell (p:=⟨B,2,none⟩) h.ltB hB).trans h.c2,(hb.cell (p:=⟨B,3,none⟩) h.ltB hB).trans h.c3,(hb.cell (p:=⟨B,4,none⟩) h.ltB hB).trans h.c4,fun i hi=>(hb.frozen (p:=⟨B,i,none⟩) h.ltB hB).trans (h.fz i hi)⟩
 ·have hs:=hb.size
  unfold rc at hj
  by_cases e:w.heap.size<=j/\j<w'.heap.size
  ·exact e.2
  ·rw[if_neg e] at hj
   have:=h.lt j hj
   omega
 ·obtain⟨v,wh,hw,hl⟩:=lface.but h.lg hb (hn (-3) (fun e=>hx e.symm))
  exact⟨v,wh,hw,hl.mono (hm (-3) (by decide))⟩
 ·exact (h.tb.but hb (hn (-4) (fun e=>hx e.symm))).mono (hm (-4) (by decide))
 ·exact⟨n,map_but ho hb (by rw[h.cM];exact fun e=>hx e.symm)⟩
 ·obtain⟨h1,b,h2,h3⟩:=h.tx i o hi
  exact⟨h1,b,h2,(h3.but hb (hn i hx)).mono (hm i (by omega))⟩
theorem nw_rc {x:Int} (h:DX w c B L Tb M D ids s g vs top ox) (hx:x≠0):∀ j,j<w'.heap.size->Nw (fun j=>c j=x) w w' j->rc c x w w' j=x:=fun j _ hj=>by
 rcases hj with e|e
 ·rw[rc_old (h.lt j (by rw[e];exact hx)),e]
 ·exact rc_new e
theorem DX.logs {g':Lg} (h:DX w c B L Tb M D ids s g vs top ox) (hT:LT w' (Nw (fun j=>c j = -3) w w') L g') (hb:But (fun j=>c j = -3) w w'):DX w' (rc c (-3) w w') B L Tb M D ids s g' vs top ox:=by
 have r:=h.re (-3) hb
 obtain⟨a0,a1,a2,a3,a4,a5⟩:=r.cl (by decide)
 obtain⟨v,wh,hw,hl⟩:=hT
 exact⟨r.cB,a0,a1,a2,a3,a4,a5,r.lt,⟨v,wh,hw,hl.mono (nw_rc h (by decide))⟩,r.tb (by decide),r.cM,r.own (by decide),h.no,fun i o hi=>r.tx i o hi (by have:=(h.tx i o hi).1;omega)⟩
theorem DX.tabs {vs':List Ver} {top':Int} (h:DX w c B L Tb M D ids s g vs top ox) (hT:Tab w' (Nw (fun j=>c j = -4) w w') Tb vs' top') (hb:But (fun j=>c j = -4) w w'):DX w' (rc c (-4) w w') B L Tb M D ids s g vs' top' ox:=by
 have r:=h.re (-4) hb
 obtain⟨a0,a1,a2,a3,a4,a5⟩:=r.cl (by decide)
 exact⟨r.cB,a0,a1,a2,a3,a4,a5,r.lt,r.lg (by decide),hT.mono (nw_rc h (by decide)),r.cM,r.own (by decide),h.no,fun i o hi=>r.tx i o hi (by have:=(h.tx i o hi).1;omega)⟩
theorem DX.txs {i:Int} {o o':Ox} {b:Nat} {ox':Int->Option Ox} (h:DX w c B L Tb M D ids s g vs top ox) (ho:ox i=some o) (hl:look D (kI i)=some (.pointer (some ⟨b,0,none⟩))) (hT:TxAt w' (Nw (fun j=>c j=i) w w') b o') (hb:But (fun j=>c j=i) w w') (hox:∀ j,ox' j=if j=i then some o' else ox j):DX w' (rc c i w w') B L Tb M D ids s g vs top ox':=by
 have r:=h.re i hb
 have hi:=(h.tx i o ho).1
 obtain⟨a0,a1,a2,a3,a4,a5⟩:=r.cl (by omega)
 refine⟨r.cB,a0,a1,a2,a3,a4,a5,r.lt,r.lg (by omega),r.tb (by omega),r.cM,r.own (by omega),fun j hj=>?_,fun j p hj=>?_⟩
 ·rw[hox] at hj
  by_cases e:j=i
  ·rw[if_pos e] at hj;cases hj
  ·rw[if_neg e] at hj;exact h.no j hj
 ·rw[hox] at hj
  by_cases e:j=i
  ·rw[if_pos e] at hj
   cases hj
   subst e
   exact⟨hi,b,hl,hT.mono (nw_rc h (by omega))⟩
  ·rw[if_neg e] at hj
   exact r.tx j p hj e
theorem DX.at (h:DX w c B L Tb M D ids s g vs top ox) {L' Tb':Nat} {ids' s':Int} (hb:But (fun j=>j=B) w w')
  (a0:w'.cell? ⟨B,0,none⟩=some (.pointer (some ⟨L',0,none⟩))) (a1:w'.cell? ⟨B,1,none⟩=some (.pointer (some ⟨Tb',0,none⟩))) (a2:w'.cell? ⟨B,2,none⟩=some (.map (some M))) (a3:w'.cell? ⟨B,3,none⟩=some (.int .i64 ids')) (a4:w'.cell? ⟨B,4,none⟩=some (.int .i64 s')) (a5:∀ i,i<5->w'.frozen? ⟨B,i,none⟩=false)
  {g':Lg} {vs':List Ver} {top':Int} (hg:LT w (fun j=>c j = -3) L' g') (ht:Tab w (fun j=>c j = -4) Tb' vs' top'):DX w' c B L' Tb' M D ids' s' g' vs' top' ox:=by
 have hn:∀ y,y ≠ -1 -> ∀ j,j<w.heap.size->c j=y -> ¬ j=B:=fun y hy j _ e k=>by rw[k,h.cB] at e;exact hy e.symm
 obtain⟨n,ho⟩:=h.own
 refine⟨h.cB,a0,a1,a2,a3,a4,a5,fun j hj=>Nat.lt_of_lt_of_le (h.lt j hj) hb.size,lface.but hg hb (hn _ (by decide)),ht.but hb (hn _ (by decide)),h.cM,⟨n,map_but ho hb (hn _ (by decide) M ho.lt h.cM)⟩,h.no,fun i o hi=>?_⟩
 obtain⟨h1,b,h2,h3⟩:=h.tx i o hi
 exact⟨h1,b,h2,h3.but hb (hn i (by omega))⟩
theorem DX.set3 (h:DX w c B L Tb M D ids s g vs top ox) (ids':Int):DX (w.setCell ⟨B,3,none⟩ (.int .i64 ids')) c B L Tb M D ids' s g vs top ox:=by
 have k0:=h.c0;have k1:=h.c1;have k2:=h.c2;have k3:=h.c3;have k4:=h.c4
 have f0:=h.fz 0 (by decide);have f1:=h.fz 1 (by decide);have f2:=h.fz 2 (by decide);have f3:=h.fz 3 (by decide);have f4:=h.fz 4 (by decide)
 refine h.at lw_set (by go_simp) (by go_simp) (by go_simp) (by go_simp) (by go_simp) (fun i hi=>?_) h.lg h.tb
 match i,hi with
 | 0,_=>go_simp
 | 1,_=>go_simp
 | 2,_=>go_simp
 | 3,_=>go_simp
 | 4,_=>go_simp
theorem DX.set4 (h:DX w c B L Tb M D ids s g vs top ox) (s':Int):DX (w.setCell ⟨B,4,none⟩ (.int .i64 s')) c B L Tb M D ids s' g vs top ox:=by
 have k0:=h.c0;have k1:=h.c1;have k2:=h.c2;have k3:=h.c3;have k4:=h.c4
 have f0:=h.fz 0 (by decide);have f1:=h.fz 1 (by decide);have f2:=h.fz 2 (by decide);have f3:=h.fz 3 (by decide);have f4:=h.fz 4 (by decide)
 refine h.at lw_set (by go_simp) (by go_simp) (by go_simp) (by go_simp) (by go_simp) (fun i hi=>?_) h.lg h.tb
 match i,hi with
 | 0,_=>go_simp
 | 1,_=>go_simp
 | 2,_=>go_simp
 | 3,_=>go_simp
 | 4,_=>go_simp
theorem DX.maps {D':DataW Value} {n:Nat} {ox':Int->Option Ox} (h:DX w c B L Tb M D ids s g vs top ox) (hb:But (fun j=>j=M) w w') (ho:w'.ownsMap Tryz.prog 3 anyE M n D') (hno:∀ i,ox' i=none->look D' (kI i)=none) (htx:∀ i o,ox' i=some o->ox i=some o/\look D' (kI i)=look D (kI i)):DX w' c B L Tb M D' ids s g vs top ox':=by
 have hn:∀ y,y ≠ -2 -> ∀ j,j<w.heap.size->c j=y -> ¬ j=M:=fun y hy j _ e k=>by rw[k,h.cM] at e;exact hy e.symm
 have hB:=hn (-1) (by decide) B h.ltB h.cB
 refine⟨h.cB,(hb.cell (p:=⟨B,0,none⟩) h.ltB hB).trans h.c0,(hb.cell (p:=⟨B,1,none⟩) h.ltB hB).trans h.c1,(hb.cell (p:=⟨B,2,none⟩) h.ltB hB).trans h.c2,(hb.cell (p:=⟨B,3,none⟩) h.ltB hB).trans h.c3,(hb.cell (p:=⟨B,4,none⟩) h.ltB hB).trans h.c4,fun i hi=>(hb.frozen (p:=⟨B,i,none⟩) h.ltB hB).trans (h.fz i hi),fun j hj=>Nat.lt_of_lt_of_le (h.lt j hj) hb.size,
  lface.but h.lg hb (hn _ (by decide)),h.tb.but hb (hn _ (by decide)),h.cM,⟨n,ho⟩,hno,fun i o hi=>?_⟩
 obtain⟨e1,e2⟩:=htx i o hi
 obtain⟨h1,b,h2,h3⟩:=h.tx i o e1
 exact⟨h1,b,by rw[e2];exact h2,h3.but hb (hn i (by omega))⟩
theorem DX.size {d:Dk} (h:DX w c B L Tb M D ids s g vs top (opI d)) (hp:d.op.Pairwise (fun a b=>a.id<b.id)):Maps.size D=d.op.length:=by
 obtain⟨n,ho⟩:=h.own
 have:=size_ints ho (is:=d.op.map (·.id)) (List.pairwise_map.2 (hp.imp (fun h e=>by omega))) (fun x=>by
  constructor
  ·intro hx
   obtain⟨o,ho,rfl⟩:=List.mem_map.1 hx
   obtain⟨_,b,hb,_⟩:=h.tx o.id o (opI_is hp ho)
   rw[hb];rfl
  ·intro hx
   cases e:opI d x with
   | none=>rw[h.no x e] at hx;cases hx
   | some o=>
    obtain⟨a,b⟩:=opI_some e
    exact List.mem_map.2 ⟨o,a,b⟩)
 simpa using this
end
theorem DT.but {w w':World} {E F:Nat->Prop} {B:Nat} {d:Dk} (h:DT w F B d) (hb:But E w w') (hE:∀ j,j<w.heap.size->F j -> ¬ E j):DT w' F B d:=by
 obtain⟨c,L,Tb,M,D,hx,ht,hF⟩:=h
 exact⟨c,L,Tb,M,D,hx.but hb (fun j hj e=>hE j hj (hF j e)),ht,hF⟩
end Go.Proofs.YtcjdoeclblhaeaaGreatDoor
namespace Go.Proofs.YtcjdoeclblhaeaaGreatDoor
open Go.RowKit Go.Maps Vs
theorem infoSt:(Tryz.prog.info? 207).map (fun i=>(i.zero,i.size,i.bytes))=some (some (.agg #[.string ByteArray.empty,.string ByteArray.empty]),2,32):=by kernel_rfl
theorem zeroChg (w:World):(zeroValue 215).run Tryz.prog w=.ok (.agg #[.string { data:=#[] },.string { data:=#[] },.bool false]) w:=by kernel_rfl
theorem dkOnly (k:ByteArray) (w:World) (hk:k.size<9223372036854775807):Calls Tryz.prog 142 #[.string k] w fun e w'=>e=.returned (.agg #[.string k,.string (kz k)])/\Below w.heap.size w w':=by
 rw[<- kz_add]
 go_enter Tryz.func142,Tryz.ntmps142
 go_wp2
 exact bodyPost_ret (v:=.agg #[.string k,.string (k++({ data:=#[0] }:ByteArray))]) (by simp[results,Tryz.results142,go_sem]) rfl ⟨rfl,by repeat (first|exact below_self _|exact below_al (below_self _) _|refine Below.setCell ?_ (by simp) _)⟩
theorem dkHas (lo hi k:ByteArray) (w:World):Calls Tryz.prog 298 #[.agg #[.string lo,.string hi],.string k] w fun e w'=>e=.returned (.bool (btw lo hi k))/\Below w.heap.size w w':=by
 have g1:=leq_bl lo k
 unfold btw
 generalize bl k lo=c at g1 ⊢
 unfold bl
 cases c <;> cases h2:Op.bytesLess k.toList hi.toList
 all_goals
  go_enter Tryz.func298,Tryz.ntmps298
  go_wp2
  all_goals go_ret
  all_goals exact⟨rfl,below_al (below_self _) _⟩
theorem dkBegun (sees:Int) (w:World):Calls Tryz.prog 101 #[.int .i64 sees] w fun e w'=>∃ b,e=.returned (.pointer (some ⟨b,0,none⟩))/\TX w' (fun j=>w.heap.size<=j/\j<w'.heap.size) b sees (.slice none 0 0) [] w.heap.size (.map [])/\Below w.heap.size w w':=by
 have hmm:=@run_makeMap Tryz.prog
 go_enter Tryz.func101,Tryz.ntmps101
 go_wp2
 go_ret
 refine⟨w.heap.size+1,by simp,⟨⟨by omega,by simp⟩,by simp,by simp,by simp,by simp,World.ownsRow_nil _ _ _ _,fun j hj=>(by cases hj),⟨Nat.le_refl _,by simp;omega⟩,by omega,⟨0,(World.ownsMap_made _ _ _ _).alloc _⟩⟩,below_al (below_al (below_self _) _) _⟩
theorem dkAskNo {w:World} {G:Nat->Prop} {b:Nat} {sees:Int} {v:Value} {qs:List Pr} {M:Nat} {D:DataW Value} (h:TX w G b sees v qs M D) (lo hi:ByteArray) (hl:100<=qs.length) (hl2:qs.length<=1000) :
  Calls Tryz.prog 246 #[.pointer (some ⟨b,0,none⟩),.agg #[.string lo,.string hi]] w fun e w'=>e=.returned (errN 3)/\Below w.heap.size w w':=by
 obtain⟨p,c,rfl,-⟩:=lw_form h.row
 have c1:(w.alloc (.cells #[.string lo,.string hi] 207)).cell? ⟨b,1,none⟩=some (.slice p qs.length c):=((below_al (below_self w) (.cells #[.string lo,.string hi] 207)).cell (p:=⟨b,1,none⟩) h.lt).trans h.c1
 go_enter Tryz.func246,Tryz.ntmps246
 go_wp2
 go_ret
 exact⟨rfl,below_al (below_self _) _⟩
theorem turned_dc {w w':World} {v:Value} (hg:w.grownBy w' v.ownBlock):But (fun j=>v.ownBlock=some j) w w':=⟨hg.os,hg.tape,hg.output,hg.size,fun k hk hF=>hg.block k hk (fun e=>hF e.symm)⟩
theorem dc_append_run {w w':World} {ops:Array Oper} {o:Oper} {a:Act} {K:Act->World->Prop} {Q:Exit->Act->World->Prop} {E:Prop} {v u v':Value} (hgd:o.guard=none) (s x:Operand) (t:TypeId)
  (ho:o.op=.call { callee:=.builtin .append,args:=#[s,x],argTypes:=#[t,t] }) (hs:a.eval s=v) (hx:a.eval x=u) (hr:(Builtin.append_ #[t,t] o.type #[v,u]).run Tryz.prog w=.ok v' w') (hK:K (a.put o.dst v') w') :
  if Region.wanted o (yielded ops a.tmps)=true then Oper.wp Tryz.prog o a w K Q else E:=by
 have hw:Region.wanted o (yielded ops a.tmps)=true:=by simp[Region.wanted,hgd]
 rw[if_pos hw]
 unfold Oper.wp execOp
 simp only [ho,resolve,invoke,builtin,Sem.run_bind,Sem.run_pure,Result.andThen_ok,List.map_toArray,List.map_cons,List.map_nil,hs,hx,hr]
 exact hK
theorem dkAskOk {w:World} {G:Nat->Prop} {b:Nat} {sees:Int} {v:Value} {qs:List Pr} {M:Nat} {D:DataW Value} (h:TX w G b sees v qs M D) (lo hi:ByteArray) (hl:qs.length<100) :
  Calls Tryz.prog 246 #[.pointer (some ⟨b,0,none⟩),.agg #[.string lo,.string hi]] w fun e w'=>e=.returned .nilIface/\(∃ v',TX w' (Nw G w w') b sees v' (qs ++ [(lo,hi)]) M D)/\But G w w':=by
 obtain⟨p,c,rfl,hc1,hc2,hp⟩:=lw_form h.row
 have hb1:=below_al (below_self w) (.cells #[.string lo,.string hi] 207)
 have c1:(w.alloc (.cells #[.string lo,.string hi] 207)).cell? ⟨b,1,none⟩=some (.slice p qs.length c):=(hb1.cell (p:=⟨b,1,none⟩) h.lt).trans h.c1
 obtain⟨W,hW⟩:∃ W,W=((w.alloc (.cells #[.string lo,.string hi] 207)).alloc (.cells #[.string lo,.string hi] 207)).drew:=⟨_,rfl⟩
 have hbW:Below w.heap.size w W:=by rw[hW];exact (below_al hb1 _).drew
 have hWs:W.heap.size=w.heap.size+2:=by rw[hW];simp
 have hx:=h.step hbW
 obtain⟨i0,hin,hz0,hz1,hz2⟩:=info_parts infoSt
 obtain⟨v',w5,hr,own5,hg5,_,hat5⟩:=run_append_own_at (P:=Tryz.prog) W 0 172 172 207 i0 _ 2 32 Tryz.underlying172 hin hz0 hz1 hz2 rfl (by decide) (.slice p qs.length c) qs.length (prV qs) hx.row ⟨w.heap.size+1,0,none⟩ 1 1 (prV [(lo,hi)]) rfl (fun j u hj=>by
  rw[show (⟨w.heap.size+1,0,none⟩:Addr).add j=⟨w.heap.size+1,j,none⟩ from by unfold Addr.add;split <;> simp_all,hW]
  exact two_new _ _ _ _ _ (by simp) j u hj) (two_one lo hi) (by unfold maxLen;omega) (by omega) (Nat.zero_le _)
 obtain⟨pu,cu,rfl,-⟩:=lw_form own5
 have b5:=turned_dc hg5
 have hsz5:=b5.size
 have hbn:¬ (Value.slice p qs.length c).ownBlock=some b:=fun e=>(hx.sep b e).2.1 rfl
 have hMn:¬ (Value.slice p qs.length c).ownBlock=some M:=fun e=>(hx.sep M e).2.2 rfl
 have k0:=(b5.cell (p:=⟨b,0,none⟩) hx.lt hbn).trans hx.c0
 have k1:=(b5.cell (p:=⟨b,1,none⟩) hx.lt hbn).trans hx.c1
 have k2:=(b5.cell (p:=⟨b,2,none⟩) hx.lt hbn).trans hx.c2
 have fk1:=(b5.frozen (p:=⟨b,1,none⟩) hx.lt hbn).trans hx.f1
 have hltb:=hx.lt
 have hltM:=hx.ltM
 have hlb:=h.lt
 have hlM:=h.ltM
 have hX:Hid (TX (w5.setCell ⟨b,1,none⟩ (.slice pu (qs.length+1) cu)) (Nw G w (w5.setCell ⟨b,1,none⟩ (.slice pu (qs.length+1) cu))) b sees (.slice pu (qs.length+1) cu) (qs ++ [(lo,hi)]) M D):=by
  have hsep:∀ j,(Value.slice pu (qs.length+1) cu).ownBlock=some j->Nw G w (w5.setCell ⟨b,1,none⟩ (.slice pu (qs.length+1) cu)) j/\j≠b/\j≠M:=fun j hj=>by
   rcases hat5 with e|e
   ·have e1:(Value.slice p qs.length c).ownBlock=some j:=by rw[<- e];exact hj
    obtain⟨q1,q2,q3⟩:=hx.sep j e1
    exact⟨.inl q1,q2,q3⟩
   ·have:W.heap.size=j:=Option.some.inj (e.symm.trans hj)
    have:=(lw_lt own5 hj).2
    exact⟨.inr ⟨by omega,by simp[World.setCell];omega⟩,by omega,by omega⟩
  refine⟨.inl h.gb,by go_simp,by go_simp,by go_simp,by go_simp,?_,hsep,.inl h.gM,h.ne,?_⟩
  ·rw[prV_app,List.length_append]
   exact row_but own5 lw_set (fun j hj=>(hsep j hj).2.1)
  ·obtain⟨n,ho⟩:=hx.own
   exact⟨n,map_but (map_but ho b5 hMn) lw_set (fun e=>h.ne e)⟩
 have hB:Hid (But G w (w5.setCell ⟨b,1,none⟩ (.slice pu (qs.length+1) cu))):=((But.below hbW).then b5 (fun j _ e=>(hx.sep j e).1)).setCell (p:=⟨b,1,none⟩) (.inl h.gb) _
 have c2:((w.alloc (.cells #[.string lo,.string hi] 207)).alloc (.cells #[.string lo,.string hi] 207)).cell? ⟨b,1,none⟩=some (.slice p qs.length c):=((below_al hb1 (.cells #[.string lo,.string hi] 207)).cell (p:=⟨b,1,none⟩) h.lt).trans h.c1
 rw[hW] at hr
 clear k0 k2 hbn hMn own5 hat5 b5 hsz5 hp hx hbW hWs hW hltb hltM hlb hlM h hz0 hz1 hz2 hin hg5
 go_enter Tryz.func246,Tryz.ntmps246
 go_wp2
 go_region_law (refine dc_append_run rfl _ _ 172 rfl rfl rfl hr ?_)
 all_goals go_wp2_with fail
 all_goals go_ret
 all_goals exact⟨rfl,⟨_,hX.out⟩,hB.out⟩
theorem TX.chg {w w3 w4:World} {G:Nat->Prop} {b:Nat} {sees:Int} {v:Value} {qs:List Pr} {M:Nat} {D D':DataW Value} {n:Nat} (h:TX w G b sees v qs M D) (hb:Below w.heap.size w w3) (ho:w4.ownsMap Tryz.prog 9 anyE M n D') (hg:w3.grownBy w4 (some M)):TX w4 (Nw G w w4) b sees v qs M D'/\But G w w4:=by
 have h3:=h.step hb
 have b4:But (fun j=>j=M) w3 w4:=⟨hg.os,hg.tape,hg.output,hg.size,fun k hk hF=>hg.block k hk (fun e=>hF (Option.some.inj e))⟩
 have hbn:¬ b=M:=fun e=>h.ne e.symm
 refine⟨⟨.inl h.gb,(b4.cell (p:=⟨b,0,none⟩) h3.lt hbn).trans h3.c0,(b4.cell (p:=⟨b,1,none⟩) h3.lt hbn).trans h3.c1,(b4.cell (p:=⟨b,2,none⟩) h3.lt hbn).trans h3.c2,(b4.frozen (p:=⟨b,1,none⟩) h3.lt hbn).trans h3.f1,row_but h3.row b4 (fun j hj=>(h3.sep j hj).2.2),fun j hj=>⟨.inl (h3.sep j hj).1,(h3.sep j hj).2⟩,.inl h.gM,h.ne,⟨n,ho⟩⟩,(But.below hb).then b4 (fun j _ e=>by rw[e];exact h.gM)⟩
theorem dkChg {w:World} {G:Nat->Prop} {b:Nat} {sees:Int} {v:Value} {qs:List Pr} {M:Nat} {D:DataW Value} {own:List Chg} (h:TX w G b sees v qs M D) (hO:OwnR D own) (hr:risC own) (c:Chg) (hl:own.length<=20) (hk:c.k.size<=maxLen) :
  Calls Tryz.prog 280 #[.pointer (some ⟨b,0,none⟩),chM c] w fun e w'=>e=.returned (ev (if 20<(insC own c).length then 3 else 0))/\(∃ D',TX w' (Nw G w w') b sees v qs M D'/\OwnR D' (if 20<(insC own c).length then own else insC own c))/\But G w w':=by
 obtain⟨n,ho⟩:=h.own
 have hs:=hO.size ho hr
 have hil:=insC_len hr c
 have hot:=own_tight ho
 rw[hs] at hot
 have hkey:=keyStr hk
 have hb1:=below_al (below_self w) (.cells #[.string c.k,.string c.v,.bool c.g] 215)
 have hb2:=below_al hb1 (.cells #[.string { data:=#[] },.string { data:=#[] },.bool false] 215)
 have c1:(w.alloc (.cells #[.string c.k,.string c.v,.bool c.g] 215)).cell? ⟨b,2,none⟩=some (.map (some M)):=(hb1.cell (p:=⟨b,2,none⟩) h.lt).trans h.c2
 have c2:((w.alloc (.cells #[.string c.k,.string c.v,.bool c.g] 215)).alloc (.cells #[.string { data:=#[] },.string { data:=#[] },.bool false] 215)).cell? ⟨b,2,none⟩=some (.map (some M)):=(hb2.cell (p:=⟨b,2,none⟩) h.lt).trans h.c2
 have ho1:(w.alloc (.cells #[.string c.k,.string c.v,.bool c.g] 215)).drew.ownsMap Tryz.prog 9 anyE M own.length D:=hot.alloc _
 have ho2:((w.alloc (.cells #[.string c.k,.string c.v,.bool c.g] 215)).alloc (.cells #[.string { data:=#[] },.string { data:=#[] },.bool false] 215)).drew.ownsMap Tryz.prog 9 anyE M own.length D:=((hot.alloc (.cells #[.string c.k,.string c.v,.bool c.g] 215)).alloc (.cells #[.string { data:=#[] },.string { data:=#[] },.bool false] 215))
 have l1:=run_lookS 173 215 true Tryz.underlying173 (zeroChg _) ho1 c.k hk
 have l2:=run_lookS 173 215 true Tryz.underlying173 (zeroChg _) ho2 c.k hk
 have hO':=hO.put ho.isMap hr c
 have hlb:=h.lt
 rw[hO c.k] at l1 l2
 cases x:ownC own c.k with
 | none=>
  rw[x] at l1 l2 hil
  simp only [if_true,Option.map_none,Option.getD_none,Option.isSome_none] at l1 l2
  have hil:(insC own c).length=own.length+1:=by simpa using hil
  have hln:=ho2.len Tryz.underlying173
  rw[hs] at hln
  by_cases h20:20<=own.length
  ·have hX:=(h.step (w':=((w.alloc (.cells #[.string c.k,.string c.v,.bool c.g] 215)).alloc (.cells #[.string { data:=#[] },.string { data:=#[] },.bool false] 215)).drew) hb2.drew)
   rw[if_pos (by omega),if_pos (by omega),ev_ne (by decide)]
   clear x hil hl hs hO' hot
   go_enter Tryz.func280,Tryz.ntmps280
   go_wp2
   go_region
   all_goals go_wp2
   all_goals go_ret
   all_goals exact⟨rfl,⟨D,hX.mono (fun j _ hj=>.inl hj),hO⟩,.below hb2.drew⟩
  ·have h20':own.length<20:=by omega
   rw[if_neg (by omega),if_neg (by omega),ev_0]
   have ho3:((w.alloc (.cells #[.string c.k,.string c.v,.bool c.g] 215)).alloc (.cells #[.string { data:=#[] },.string { data:=#[] },.bool false] 215)).drew.drew.ownsMap Tryz.prog 9 anyE M own.length D:=ho2
   obtain⟨w4,hput,own4,hg4⟩:=ho3.update keyed Tryz.underlying173 (by unfold maxLen;omega) hkey (val:=chM c) (d:=.held (chM c)) (ps:=[]) rfl
   obtain⟨X,B4⟩:=h.chg hb2.drew.drew own4 hg4
   clear x hil hl hs hot ho3 own4 hg4 h20
   go_enter Tryz.func280,Tryz.ntmps280
   go_wp2
   go_region
   all_goals go_wp2
   all_goals go_region
   all_goals go_wp2
   all_goals go_ret
   all_goals exact⟨rfl,⟨_,X,hO'⟩,B4⟩
 | some y=>
  rw[x] at l1 l2 hil
  simp only [if_true,Option.map_some,Option.getD_some,Option.isSome_some] at l1 l2
  have hil:(insC own c).length=own.length:=by simpa using hil
  rw[if_neg (by omega),if_neg (by omega),ev_0]
  have hb3:=below_al hb1 (.cells #[.string y.k,.string y.v,.bool y.g] 215)
  have c3:((w.alloc (.cells #[.string c.k,.string c.v,.bool c.g] 215)).alloc (.cells #[.string y.k,.string y.v,.bool y.g] 215)).cell? ⟨b,2,none⟩=some (.map (some M)):=(hb3.cell (p:=⟨b,2,none⟩) h.lt).trans h.c2
  have ho3:((w.alloc (.cells #[.string c.k,.string c.v,.bool c.g] 215)).alloc (.cells #[.string y.k,.string y.v,.bool y.g] 215)).drew.drew.ownsMap Tryz.prog 9 anyE M own.length D:=(hot.alloc (.cells #[.string c.k,.string c.v,.bool c.g] 215)).alloc (.cells #[.string y.k,.string y.v,.bool y.g] 215)
  obtain⟨w4,hput,own4,hg4⟩:=ho3.update keyed Tryz.underlying173 (by unfold maxLen;omega) hkey (val:=chM c) (d:=.held (chM c)) (ps:=[]) rfl
  obtain⟨X,B4⟩:=h.chg hb3.drew.drew own4 hg4
  clear x hil hl hs hot ho3 own4 hg4
  go_enter Tryz.func280,Tryz.ntmps280
  go_wp2
  go_region
  all_goals go_wp2
  all_goals go_region
  all_goals go_wp2
  all_goals go_ret
  all_goals exact⟨rfl,⟨_,X,hO'⟩,B4⟩
end Go.Proofs.YtcjdoeclblhaeaaGreatDoor
namespace Go.Proofs.YtcjdoeclblhaeaaGreatDoor
open Go.RowKit Go.Maps Vs
theorem zeroTx (w:World):(zeroValue 167).run Tryz.prog w=.ok (.pointer none) w:=by kernel_rfl
section
variable {w:World} {c:Nat->Int} {B L Tb M:Nat} {D:DataW Value} {ids s:Int} {g:Lg} {vs:List Ver} {top:Int} {ox:Int->Option Ox}
theorem dkFindNo (h:DX w c B L Tb M D ids s g vs top ox) (i:Int) (hi:ox i=none) :
  Calls Tryz.prog 138 #[.pointer (some ⟨B,0,none⟩),.int .i64 i] w fun e w'=>e=.returned (.tuple #[.pointer none,errN 4])/\w'=w:=by
 obtain⟨n,ho⟩:=h.own
 have c2:=h.c2
 have l1:=run_lookI 61 167 true Tryz.underlying61 (zeroTx w) ho i
 rw[h.no i hi] at l1
 simp only [if_true,Option.getD_none,Option.isSome_none] at l1
 go_enter Tryz.func138,Tryz.ntmps138
 go_wp2
 go_ret2
 exact⟨rfl,rfl⟩
theorem dkFind (h:DX w c B L Tb M D ids s g vs top ox) (i:Int) {b:Nat} (hi:look D (kI i)=some (.pointer (some ⟨b,0,none⟩))) :
  Calls Tryz.prog 138 #[.pointer (some ⟨B,0,none⟩),.int .i64 i] w fun e w'=>e=.returned (.tuple #[.pointer (some ⟨b,0,none⟩),.nilIface])/\w'=w:=by
 obtain⟨n,ho⟩:=h.own
 have c2:=h.c2
 have l1:=run_lookI 61 167 true Tryz.underlying61 (zeroTx w) ho i
 rw[hi] at l1
 simp only [if_true,Option.getD_some,Option.isSome_some] at l1
 go_enter Tryz.func138,Tryz.ntmps138
 go_wp2
 go_ret2
 exact⟨rfl,rfl⟩
theorem grown_butM {w w':World} {M:Nat} (hg:w.grownBy w' (some M)):But (fun j=>j=M) w w':=⟨hg.os,hg.tape,hg.output,hg.size,fun k hk hF=>hg.block k hk (fun e=>hF (Option.some.inj e))⟩
theorem dkEndNo (h:DX w c B L Tb M D ids s g vs top ox) (i:Int) (hi:ox i=none) :
  Calls Tryz.prog 102 #[.pointer (some ⟨B,0,none⟩),.int .i64 i] w fun e w'=>e=.returned (.tuple #[.pointer none,errN 4])/\(∃ D',DX w' c B L Tb M D' ids s g vs top ox)/\But (fun j=>j=M) w w'/\w'.heap.size=w.heap.size:=by
 obtain⟨n,ho⟩:=h.own
 have c2:=h.c2
 have K:=dkFindNo h i hi
 obtain⟨w1,D',hrun,ho',hlk,hg,hs⟩:=run_delI 61 167 Tryz.underlying61 ho i
 have hX:DX w1 c B L Tb M D' ids s g vs top ox:=h.maps (grown_butM hg) ho' (fun j hj=>by rw[hlk];split <;> first|rfl|exact h.no j hj) (fun j o hj=>⟨hj,by rw[hlk,if_neg (fun e=>by rw[e,hi] at hj;cases hj)]⟩)
 clear hlk ho' h
 go_enter Tryz.func102,Tryz.ntmps102
 go_wp2_with (go_at_call 138;refine K.mono ?_;rintro e w2 ⟨rfl,hw⟩;have:=hw.symm;subst this)
 go_ret2
 exact⟨rfl,⟨D',hX⟩,grown_butM hg,hs⟩
theorem dkEnd (h:DX w c B L Tb M D ids s g vs top ox) (i:Int) {o:Ox} (hi:ox i=some o) {ox':Int->Option Ox} (hox:∀ j,ox' j=if j=i then none else ox j) :
  Calls Tryz.prog 102 #[.pointer (some ⟨B,0,none⟩),.int .i64 i] w fun e w'=>∃ b,e=.returned (.tuple #[.pointer (some ⟨b,0,none⟩),.nilIface])/\TxAt w' (fun j=>c j=i) b o/\1<=i/\(∃ D',DX w' c B L Tb M D' ids s g vs top ox')/\But (fun j=>j=M) w w'/\w'.heap.size=w.heap.size:=by
 obtain⟨n,ho⟩:=h.own
 have c2:=h.c2
 obtain⟨h1,b,hb,ht⟩:=h.tx i o hi
 have K:=dkFind h i hb
 obtain⟨w1,D',hrun,ho',hlk,hg,hs⟩:=run_delI 61 167 Tryz.underlying61 ho i
 have hX:DX w1 c B L Tb M D' ids s g vs top ox':=h.maps (grown_butM hg) ho' (fun j hj=>by
  rw[hlk]
  by_cases e:j=i
  ·rw[if_pos e]
  ·rw[if_neg e];rw[hox,if_neg e] at hj;exact h.no j hj) (fun j o hj=>by
  by_cases e:j=i
  ·rw[hox,if_pos e] at hj;cases hj
  ·rw[hox,if_neg e] at hj
   exact⟨hj,by rw[hlk,if_neg e]⟩)
 have hT:TxAt w1 (fun j=>c j=i) b o:=ht.but (grown_butM hg) (fun j _ e k=>by rw[k,h.cM] at e;omega)
 clear hlk ho' h
 go_enter Tryz.func102,Tryz.ntmps102
 go_wp2_with (go_at_call 138;refine K.mono ?_;rintro e w2 ⟨rfl,hw⟩;have:=hw.symm;subst this)
 go_ret2
 exact⟨b,rfl,hT,h1,⟨D',hX⟩,grown_butM hg,hs⟩
end
theorem dkKey (k:ByteArray) (w:World):Calls Tryz.prog 245 #[.string k] w fun e w'=>e=.returned (ev (shF k ByteArray.empty))/\w'=w:=by
 by_cases h1:k.size<1
 ·rw[show shF k ByteArray.empty=2 from if_pos (.inl h1),ev_ne (by decide)]
  have g0:=(size_0 k).2 h1
  have g1:k.toList.isEmpty=true:=by rw[g0];rfl
  go_enter Tryz.func245,Tryz.ntmps245
  go_wp2
  go_ret
  exact⟨rfl,rfl⟩
 have g0:¬ k.toList=[]:=fun e=>h1 ((size_0 k).1 e)
 have g1:k.toList.isEmpty=false:=by simpa using g0
 by_cases h2:24<k.size
 ·rw[show shF k ByteArray.empty=2 from if_pos (.inr (.inl h2)),ev_ne (by decide)]
  go_enter Tryz.func245,Tryz.ntmps245
  go_wp2
  go_ret
  exact⟨rfl,rfl⟩
 ·rw[show shF k ByteArray.empty=0 from if_neg (by have:ByteArray.empty.size=0:=rfl;omega),ev_0]
  go_enter Tryz.func245,Tryz.ntmps245
  go_wp2
  go_ret
  exact⟨rfl,rfl⟩
theorem rc_but {c:Nat->Int} {x:Int} {F:Nat->Prop} {w w':World} (hF:∀ j,c j≠0->F j) (hx:x≠0) (hb:But (fun j=>c j=x) w w'):But F w w':=hb.mono (fun j _ e=>hF j (by rw[e];exact hx))
theorem dkChange {w:World} {F:Nat->Prop} {B:Nat} {d:Dk} (i:Int) (c:Chg) (h:DT w F B d) (ok:OkD d) (hk:c.k.size<=maxLen) :
  Calls Tryz.prog 249 #[.pointer (some ⟨B,0,none⟩),.int .i64 i,chM c] w fun e w'=>e=.returned (ev (dcF d i c))/\DT w' (Nw F w w') B (dcD d i c)/\But F w w':=by
 obtain⟨cc,L,Tb,M,D,hx,htl,hF⟩:=h
 have hb1:=below_al (below_self w) (.cells #[.string c.k,.string c.v,.bool c.g] 215)
 have hx1:=hx.step hb1
 have hsame:DT (w.alloc (.cells #[.string c.k,.string c.v,.bool c.g] 215)) (Nw F w (w.alloc (.cells #[.string c.k,.string c.v,.bool c.g] 215))) B d:=⟨cc,L,Tb,M,D,hx1,htl,fun j hj=>.inl (hF j hj)⟩
 cases hi:opI d i with
 | none=>
  rw[show dcF d i c=4 from by rw[dcF,hi],show dcD d i c=d from by rw[dcD,hi],ev_ne (by decide)]
  have K:=dkFindNo hx1 i hi
  go_enter Tryz.func249,Tryz.ntmps249
  go_wp2_with (go_at_call 138;refine K.mono ?_;rintro e w2 ⟨rfl,hw⟩;have:=hw.symm;subst this)
  go_ret
  exact⟨rfl,hsame,.below hb1⟩
 | some o=>
  obtain⟨h1,b,hb,v,qs,Mo,Do,tx,hq,hO⟩:=hx1.tx i o hi
  obtain⟨om,oi⟩:=opI_some hi
  have oko:=ok.op o om
  have K:=dkFind hx1 i hb
  have K2:=dkKey c.k
  by_cases hs0:shF c.k ByteArray.empty=0
  ·rw[hs0,ev_0] at K2
   have hk1:¬ (c.k.size<1 \/ 24<c.k.size):=fun e=>by
    unfold shF at hs0
    rw[if_pos (e.imp id .inl)] at hs0;cases hs0
   by_cases hv:12<c.v.size
   ·have hsv:shF c.k c.v=2:=if_pos (.inr (.inr hv))
    rw[show dcF d i c=2 from by rw[dcF,hi];simp only;rw[if_neg (by rw[hsv];decide)],show dcD d i c=d from by rw[dcD,hi];simp only;rw[if_neg (by rw[hsv];decide)],ev_ne (by decide)]
    clear hs0 hk1 hsv
    go_enter Tryz.func249,Tryz.ntmps249
    go_wp2_with (first
     | (go_at_call 138;refine K.mono ?_;rintro e w2 ⟨rfl,hw⟩;have:=hw.symm;subst this)
     | (go_at_call 245;refine (K2 _).mono ?_;rintro e w3 ⟨rfl,hw⟩;have:=hw.symm;subst this))
    go_ret
    exact⟨rfl,hsame,.below hb1⟩
   ·have hsv:shF c.k c.v=0:=if_neg (by omega)
    have hsee:dcF d i c=if 20<(insC o.own c).length then 3 else 0:=by rw[dcF,hi];simp only;rw[if_pos hsv]
    have hd:dcD d i c=opSet d { o with own:=if 20<(insC o.own c).length then o.own else insC o.own c }:=by
     rw[dcD,hi];simp only;rw[if_pos hsv]
     split
     ·exact (opSet_same ok.ids om).symm
     ·rfl
    rw[hsee,hd]
    have K3:=dkChg tx hO (chF_ris oko.own) c ((chF_ok oko.own).1) hk
    generalize (if 20<(insC o.own c).length then (3:Int) else 0)=f at K3 ⊢
    generalize (if 20<(insC o.own c).length then o.own else insC o.own c)=own' at K3 ⊢
    clear hs0 hk1 hsv hsee hd hsame
    go_enter Tryz.func249,Tryz.ntmps249
    go_wp2_with (first
     | (go_at_call 138;refine K.mono ?_;rintro e w2 ⟨rfl,hw⟩;have:=hw.symm;subst this)
     | (go_at_call 245;refine (K2 _).mono ?_;rintro e w3 ⟨rfl,hw⟩;have:=hw.symm;subst this)
     | (go_at_call 280;refine K3.mono ?_;rintro e w4 ⟨rfl,⟨D',X,O'⟩,B4⟩))
    go_ret
    have hbt:=rc_but hF (by omega) ((But.below hb1:But (fun j=>cc j=i) w _).then B4 (fun j _ e=>e))
    refine⟨rfl,⟨rc cc i (w.alloc (.cells #[.string c.k,.string c.v,.bool c.g] 215)) w4,L,Tb,M,D,?_,htl,fun j hj=>?_⟩,hbt⟩
    ·have:=hx1.txs (o':={ o with own:=own' }) (ox':=opI (opSet d { o with own:=own' })) hi hb ⟨v,qs,Mo,D',X,⟨hq.len,hq.mem⟩,O'⟩ B4 (fun j=>by rw[opI_set (o:=o) (o':={ o with own:=own' }) (by rw[oi];exact hi) rfl,oi])
     exact this
    ·rcases rc_F hF j hj with e|e
     ·exact .inl e
     ·have:=hb1.size
      exact .inr ⟨by omega,e.2⟩
  ·have hs2:shF c.k ByteArray.empty=2:=by
    unfold shF at hs0 ⊢
    split
    ·rfl
    ·rename_i g;rw[if_neg g] at hs0;exact absurd rfl hs0
   have hsv:¬ shF c.k c.v=0:=fun e=>by
    obtain⟨e1,e2,_⟩:=shF_ok e
    unfold shF at hs2
    rw[if_neg (by have:ByteArray.empty.size=0:=rfl;omega)] at hs2;cases hs2
   rw[show dcF d i c=2 from by rw[dcF,hi];simp only;rw[if_neg hsv],show dcD d i c=d from by rw[dcD,hi];simp only;rw[if_neg hsv],ev_ne (by decide)]
   rw[hs2,ev_ne (by decide)] at K2
   clear hs0 hs2 hsv
   go_enter Tryz.func249,Tryz.ntmps249
   go_wp2_with (first
    | (go_at_call 138;refine K.mono ?_;rintro e w2 ⟨rfl,hw⟩;have:=hw.symm;subst this)
    | (go_at_call 245;refine (K2 _).mono ?_;rintro e w3 ⟨rfl,hw⟩;have:=hw.symm;subst this))
   go_ret
   exact⟨rfl,hsame,.below hb1⟩
theorem dkPut {w:World} {F:Nat->Prop} {B:Nat} {d:Dk} (i:Int) (k v:ByteArray) (h:DT w F B d) (ok:OkD d) (hk:k.size<=maxLen) :
  Calls Tryz.prog 204 #[.pointer (some ⟨B,0,none⟩),.int .i64 i,.string k,.string v] w fun e w'=>e=.returned (ev (dcF d i ⟨k,v,false⟩))/\DT w' (Nw F w w') B (dcD d i ⟨k,v,false⟩)/\But F w w':=by
 have K:=dkChange i ⟨k,v,false⟩ h ok hk
 generalize dcF d i ⟨k,v,false⟩=f at K ⊢
 generalize dcD d i ⟨k,v,false⟩=d' at K ⊢
 go_enter Tryz.func204,Tryz.ntmps204
 go_wp2_with (go_at_call 249;refine K.mono ?_;rintro e w2 ⟨rfl,h2,h3⟩)
 go_ret
 exact⟨rfl,h2,h3⟩
theorem dkDrop {w:World} {F:Nat->Prop} {B:Nat} {d:Dk} (i:Int) (k:ByteArray) (h:DT w F B d) (ok:OkD d) (hk:k.size<=maxLen) :
  Calls Tryz.prog 214 #[.pointer (some ⟨B,0,none⟩),.int .i64 i,.string k] w fun e w'=>e=.returned (ev (dcF d i ⟨k,ByteArray.empty,true⟩))/\DT w' (Nw F w w') B (dcD d i ⟨k,ByteArray.empty,true⟩)/\But F w w':=by
 have K:=dkChange i ⟨k,ByteArray.empty,true⟩ h ok hk
 generalize dcF d i ⟨k,ByteArray.empty,true⟩=f at K ⊢
 generalize dcD d i ⟨k,ByteArray.empty,true⟩=d' at K ⊢
 go_enter Tryz.func214,Tryz.ntmps214
 go_wp2_with (go_at_call 249;refine K.mono ?_;rintro e w2 ⟨rfl,h2,h3⟩)
 go_ret
 exact⟨rfl,h2,h3⟩
theorem dkAbort {w:World} {F:Nat->Prop} {B:Nat} {d:Dk} (i:Int) (h:DT w F B d) :
  Calls Tryz.prog 74 #[.pointer (some ⟨B,0,none⟩),.int .i64 i] w fun e w'=>e=.returned (ev (abF d i))/\DT w' (Nw F w w') B (opDel d i)/\But F w w':=by
 obtain⟨cc,L,Tb,M,D,hx,htl,hF⟩:=h
 have hM:F M:=hF M (by rw[hx.cM];decide)
 cases hi:opI d i with
 | none=>
  rw[show abF d i=4 from by rw[abF,hi];rfl,ev_ne (by decide)]
  have K:=dkEndNo hx i hi
  go_enter Tryz.func74,Tryz.ntmps74
  go_wp2_with (go_at_call 102;refine K.mono ?_;rintro e w2 ⟨rfl,⟨D',X⟩,B2,-⟩)
  go_ret
  have e1:(opI (opDel d i))=opI d:=by
   funext j
   rw[opI_del]
   split
   ·rename_i e;rw[e,hi]
   ·rfl
  exact⟨rfl,⟨cc,L,Tb,M,D',by rw[e1];exact X,htl,fun j hj=>.inl (hF j hj)⟩,B2.mono (fun j _ e=>by rw[e];exact hM)⟩
 | some o=>
  rw[show abF d i=0 from by rw[abF,hi];rfl,ev_0]
  have K:=dkEnd hx i hi (ox':=opI (opDel d i)) (fun j=>opI_del d i j)
  go_enter Tryz.func74,Tryz.ntmps74
  go_wp2_with (go_at_call 102;refine K.mono ?_;rintro e w2 ⟨b,rfl,-,-,⟨D',X⟩,B2,-⟩)
  go_ret
  exact⟨rfl,⟨cc,L,Tb,M,D',X,htl,fun j hj=>.inl (hF j hj)⟩,B2.mono (fun j _ e=>by rw[e];exact hM)⟩
end Go.Proofs.YtcjdoeclblhaeaaGreatDoor
namespace Go.Proofs.YtcjdoeclblhaeaaGreatDoor
open Go.RowKit Go.Maps Vs
theorem versTop {F:Nat->Prop} {B:Nat} {l:List Ver} {top:Int} (w:World) (hT:Tab w F B l top):Calls Tryz.prog 121 #[.pointer (some ⟨B,0,none⟩)] w fun e w'=>e=.returned (.int .i64 top)/\w'=w:=by
 have c1:=hT.c1
 clear hT
 go_enter Tryz.func121,Tryz.ntmps121
 go_wp2
 go_ret
 exact⟨rfl,rfl⟩
theorem logOff {F:Nat->Prop} {L:Nat} {g:Lg} (w:World) (h:LT w F L g):Calls Tryz.prog 100 #[.pointer (some ⟨L,0,none⟩)] w fun e w'=>e=.returned (.bool g.down)/\w'=w:=by
 obtain⟨v,wh,hw,hx⟩:=h
 have c0:=hx.c0
 clear hx
 go_enter Tryz.func100,Tryz.ntmps100
 go_wp2
 go_ret
 exact⟨rfl,rfl⟩
section
variable {w:World} {c:Nat->Int} {B L Tb M:Nat} {D:DataW Value} {ids s:Int} {g:Lg} {vs:List Ver} {top:Int} {ox:Int->Option Ox}
theorem dxTop (h:DX w c B L Tb M D ids s g vs top ox):Calls Tryz.prog 92 #[.pointer (some ⟨B,0,none⟩)] w fun e w'=>e=.returned (.int .i64 top)/\w'=w:=by
 have c1:=h.c1
 have K:=versTop w h.tb
 clear h
 go_enter Tryz.func92,Tryz.ntmps92
 go_wp2_with (go_at_call 121;refine K.mono ?_;rintro e w2 ⟨rfl,rfl⟩)
 go_ret
 exact⟨rfl,rfl⟩
theorem DX.adds {w3 w4:World} {i:Int} {o:Ox} {b n:Nat} {ox':Int->Option Ox} (h:DX w c B L Tb M D ids s g vs top ox) (hi:1<=i) (hb3:Below w.heap.size w w3) (ht:TxAt w3 (fun j=>w.heap.size<=j/\j<w3.heap.size) b o)
  (ho:w4.ownsMap Tryz.prog 3 anyE M n (D.put (kI i) (.held (.pointer (some ⟨b,0,none⟩))))) (hb4:But (fun j=>j=M) w3 w4) (hox:∀ j,ox' j=if j=i then some o else ox j):DX w4 (rc c i w w4) B L Tb M (D.put (kI i) (.held (.pointer (some ⟨b,0,none⟩)))) ids s g vs top ox':=by
 have h3:=h.step hb3
 obtain⟨n0,ho0⟩:=h.own
 have hM:=ho0.lt
 have s3:=hb3.size
 have s4:=hb4.size
 have hn:∀ y,y ≠ -2 -> ∀ j,j<w3.heap.size->c j=y -> ¬ j=M:=fun y hy j _ e k=>by rw[k,h.cM] at e;exact hy e.symm
 have hm:∀ y,y≠0 -> ∀ j,j<w4.heap.size->c j=y->rc c i w w4 j=y:=fun y hy j _ e=>by rw[rc_old (h.lt j (by rw[e];exact hy)),e]
 have hB:=hn (-1) (by decide) B h3.ltB h.cB
 refine⟨by rw[rc_old h.ltB];exact h.cB,(hb4.cell (p:=⟨B,0,none⟩) h3.ltB hB).trans h3.c0,(hb4.cell (p:=⟨B,1,none⟩) h3.ltB hB).trans h3.c1,(hb4.cell (p:=⟨B,2,none⟩) h3.ltB hB).trans h3.c2,(hb4.cell (p:=⟨B,3,none⟩) h3.ltB hB).trans h3.c3,(hb4.cell (p:=⟨B,4,none⟩) h3.ltB hB).trans h3.c4,
  fun k hk=>(hb4.frozen (p:=⟨B,k,none⟩) h3.ltB hB).trans (h3.fz k hk),fun j hj=>?_,?_,(h3.tb.but hb4 (hn _ (by decide))).mono (hm (-4) (by decide)),by rw[rc_old hM];exact h.cM,⟨n,ho⟩,fun j hj=>?_,fun j p hj=>?_⟩
 ·unfold rc at hj
  by_cases e:w.heap.size<=j/\j<w4.heap.size
  ·exact e.2
  ·rw[if_neg e] at hj
   have:=h.lt j hj
   omega
 ·obtain⟨v,wh,hw,hl⟩:=lface.but h3.lg hb4 (hn _ (by decide))
  exact⟨v,wh,hw,hl.mono (hm (-3) (by decide))⟩
 ·rw[hox] at hj
  by_cases e:j=i
  ·rw[if_pos e] at hj;cases hj
  ·rw[if_neg e] at hj
   rw[look_put_other (kI_ne e)]
   exact h.no j hj
 ·rw[hox] at hj
  by_cases e:j=i
  ·rw[if_pos e] at hj
   cases hj
   subst e
   exact⟨hi,b,look_put ho0.isMap (kI_key _) _,(ht.but hb4 (fun k hk hg e=>by have:=hg.1;omega)).mono (fun k hk hg=>rc_new ⟨hg.1,by have:=hg.2;omega⟩)⟩
  ·rw[if_neg e] at hj
   obtain⟨h1,b',h2,h5⟩:=h3.tx j p hj
   exact⟨h1,b',by rw[look_put_other (kI_ne e)];exact h2,(h5.but hb4 (hn j (by omega))).mono (hm j (by omega))⟩
end
theorem dkTop {w:World} {F:Nat->Prop} {B:Nat} {d:Dk} (h:DT w F B d):Calls Tryz.prog 92 #[.pointer (some ⟨B,0,none⟩)] w fun e w'=>e=.returned (.int .i64 d.last)/\Below w.heap.size w w':=by
 obtain⟨cc,L,Tb,M,D,hx,htl,hF⟩:=h
 rw[<- htl]
 exact (dxTop hx).mono (fun e w' he=>⟨he.1,by rw[he.2];exact below_self _⟩)
theorem dkSafe {w:World} {F:Nat->Prop} {B:Nat} {d:Dk} (h:DT w F B d):Calls Tryz.prog 66 #[.pointer (some ⟨B,0,none⟩)] w fun e w'=>e=.returned (.int .i64 (sfN d))/\Below w.heap.size w w':=by
 obtain⟨cc,L,Tb,M,D,hx,htl,hF⟩:=h
 have c4:=hx.c4
 go_enter Tryz.func66,Tryz.ntmps66
 go_wp2
 go_ret
 exact⟨rfl,below_self _⟩
theorem dkFail {w:World} {F:Nat->Prop} {B:Nat} {d:Dk} (n:Int) (h0 : -9223372036854775808<=n) (h1:n<=9223372036854775807) (h:DT w F B d) :
  Calls Tryz.prog 79 #[.pointer (some ⟨B,0,none⟩),.int .i64 n] w fun e w'=>e=.returned (.tuple #[])/\DT w' (Nw F w w') B (fdD d n)/\But F w w':=by
 obtain⟨cc,L,Tb,M,D,hx,htl,hF⟩:=h
 have c0:=hx.c0
 have K:=lgFail n h0 h1 hx.lg
 go_enter Tryz.func79,Tryz.ntmps79
 go_wp2_with (go_at_call 112;refine K.mono ?_;rintro e w2 ⟨rfl,hT,hb⟩)
 go_end0
 exact⟨rfl,⟨_,L,Tb,M,D,hx.logs hT hb,htl,rc_F hF⟩,rc_but hF (by decide) hb⟩
theorem dkFlush {w:World} {F:Nat->Prop} {B:Nat} {d:Dk} (h:DT w F B d) (ok:OkD d) :
  Calls Tryz.prog 64 #[.pointer (some ⟨B,0,none⟩)] w fun e w'=>e=.returned (ev (flF d))/\DT w' (Nw F w w') B (flD d)/\But F w w':=by
 obtain⟨cc,L,Tb,M,D,hx,htl,hF⟩:=h
 have c0:=hx.c0
 have K:=lgSync hx.lg ok.lg
 have hsf:=sf_fl ok
 have hB:F B:=hF B (by rw[hx.cB];decide)
 by_cases hf:syF d.lg=0
 ·rw[show flF d=0 from hf,ev_0]
  rw[show flF d=0 from hf,if_pos rfl] at hsf
  rw[hf,ev_0] at K
  go_enter Tryz.func64,Tryz.ntmps64
  go_wp2_with (first
   | (go_at_call 91;refine K.mono ?_;clear K;rintro e w2 ⟨rfl,hT,hb⟩;have hx2:=hx.logs hT hb;have m4:=hx2.c4;have f4:=hx2.fz 4 (by decide);have K2:=dxTop hx2)
   | (go_at_call 92;refine K2.mono ?_;clear K2;rintro e w3 ⟨rfl,hw⟩;have:=hw.symm;subst this))
  go_ret
  have hx3:=hx2.set4 d.last
  refine⟨rfl,⟨rc cc (-3) w w2,L,Tb,M,D,?_,htl,fun j hj=>?_⟩,(rc_but hF (by decide) hb).setCell (.inl hB) _⟩
  ·rw[hsf];exact hx3
  ·rcases rc_F hF j hj with e|e
   ·exact .inl e
   ·exact .inr ⟨e.1,by simp[World.setCell];exact e.2⟩
 ·rw[show flF d=syF d.lg from rfl,ev_ne hf]
  rw[if_neg (show ¬ flF d=0 from hf)] at hsf
  rw[ev_ne hf] at K
  go_enter Tryz.func64,Tryz.ntmps64
  go_wp2_with (go_at_call 91;refine K.mono ?_;clear K;rintro e w2 ⟨rfl,hT,hb⟩)
  go_ret
  exact⟨rfl,⟨_,L,Tb,M,D,by rw[hsf];exact hx.logs hT hb,htl,rc_F hF⟩,rc_but hF (by decide) hb⟩
theorem dkNewNo (w:World) {room:Int} (h:¬ (0<=room/\room<=100000)):Calls Tryz.prog 11 #[.int .i64 room] w fun e w'=>∃ p,e=.returned (.tuple #[.pointer p,errN 1])/\Below w.heap.size w w':=by
 have K:=newNo w h
 go_enter Tryz.func11,Tryz.ntmps11
 go_wp2_with (go_at_call 19;refine K.mono ?_;rintro e w2 ⟨p,rfl,hb⟩)
 go_ret2
 first|exact⟨none,rfl,hb⟩|exact⟨⟨none,rfl⟩,hb⟩
theorem dkNew (w:World) {room:Int} (h0:0<=room) (h1:room<=100000):Calls Tryz.prog 11 #[.int .i64 room] w fun e w'=>∃ B,e=.returned (.tuple #[.pointer (some ⟨B,0,none⟩),.nilIface])/\DT w' (fun j=>w.heap.size<=j/\j<w'.heap.size) B (dk0 room)/\Below w.heap.size w w':=by
 have K:=newOk w h0 h1
 have hmm:=@run_makeMap Tryz.prog
 go_enter Tryz.func11,Tryz.ntmps11
 go_wp2_with (first
  | (go_at_call 19;refine K.mono ?_;rintro e w2 ⟨L,rfl,hL,hb2⟩)
  | (go_at_call 20;refine (new w2).mono ?_;rintro e w3 ⟨Tb,rfl,hT,hb3⟩))
 go_ret2
 have s2:=hb2.size
 have s3:=hb3.size
 have hb:Below w3.heap.size w3 ((w3.alloc (.map #[] 0)).alloc (.cells #[.pointer (some ⟨L,0,none⟩),.pointer (some ⟨Tb,0,none⟩),.map (some w3.heap.size),.int .i64 0,.int .i64 0] 63)):=below_al (below_al (below_self _) _) _
 have hw:Below w.heap.size w ((w3.alloc (.map #[] 0)).alloc (.cells #[.pointer (some ⟨L,0,none⟩),.pointer (some ⟨Tb,0,none⟩),.map (some w3.heap.size),.int .i64 0,.int .i64 0] 63)):=below_via (below_via hb2 hb3) hb
 refine⟨w3.heap.size+1,by simp,⟨fun j=>if j<w.heap.size then 0 else if j<w2.heap.size then -3 else if j<w3.heap.size then -4 else if j=w3.heap.size then -2 else if j=w3.heap.size+1 then -1 else 0,L,Tb,w3.heap.size,.map [],?_,rfl,fun j hj=>?_⟩,hw⟩
 ·refine⟨?_,by simp,by simp,by simp,by simp[dk0],by simp[dk0,sfN,lg0,fitL],fun i hi=>by simp,fun j hj=>?_,?_,?_,?_,⟨0,(World.ownsMap_made _ _ _ _).alloc _⟩,fun i _=>look_empty _,fun i o hi=>by simp[opI,dk0] at hi⟩
  ·rw[if_neg (by omega),if_neg (by omega),if_neg (by omega),if_neg (by omega),if_pos rfl]
  ·simp only [World.size_alloc]
   by_cases a1:j<w.heap.size
   ·simp[a1] at hj
   by_cases a2:j<w2.heap.size
   ·omega
   by_cases a3:j<w3.heap.size
   ·omega
   by_cases a4:j=w3.heap.size
   ·omega
   by_cases a5:j=w3.heap.size+1
   ·omega
   ·simp[a1,a2,a3,a4,a5] at hj
  ·have:=lface.step (lface.step hL hb3) hb
   obtain⟨v,wh,hwh,hl⟩:=this
   refine⟨v,wh,hwh,hl.mono (fun j _ hj=>?_)⟩
   rw[if_neg (by omega),if_pos hj.2]
  ·refine (hT.step hb).mono (fun j _ hj=>?_)
   rw[if_neg (by omega),if_neg (by omega),if_pos hj.2]
  ·rw[if_neg (by omega),if_neg (by omega),if_neg (by omega),if_pos rfl]
 ·simp only [World.size_alloc]
  by_cases a1:j<w.heap.size
  ·simp[a1] at hj
  by_cases a2:j<w2.heap.size
  ·omega
  by_cases a3:j<w3.heap.size
  ·omega
  by_cases a4:j=w3.heap.size
  ·omega
  by_cases a5:j=w3.heap.size+1
  ·omega
  ·simp[a1,a2,a3,a4,a5] at hj
theorem dkBegin {w:World} {F:Nat->Prop} {B:Nat} {d:Dk} (h:DT w F B d) (ok:OkD d) (hids:d.ids<=100000) :
  Calls Tryz.prog 72 #[.pointer (some ⟨B,0,none⟩)] w fun e w'=>e=.returned (.tuple #[.int .i64 (bgN d),ev (bgF d)])/\DT w' (Nw F w w') B (bgD d)/\But F w w':=by
 obtain⟨cc,L,Tb,M,D,hx,htl,hF⟩:=h
 have c0:=hx.c0
 have c2:=hx.c2
 have c3:=hx.c3
 obtain⟨n,ho⟩:=hx.own
 have hsz:=hx.size ok.ids
 have hln:=ho.len Tryz.underlying61
 rw[hsz] at hln
 have hfew:=ok.few
 by_cases h8:8<=d.op.length
 ·have e1:bgF d=3:=by rw[bgF,if_pos h8]
  rw[bgN,bgD,if_neg (by rw[e1];decide),if_neg (by rw[e1];decide),e1,ev_ne (by decide)]
  clear hfew
  go_enter Tryz.func72,Tryz.ntmps72
  go_wp2
  go_ret2
  exact⟨rfl,⟨cc,L,Tb,M,D,hx,htl,fun j hj=>.inl (hF j hj)⟩,.refl _ _⟩
 ·have K1:=logOff w hx.lg
  cases hd:d.lg.down with
  | true=>
   have e1:bgF d=8:=by rw[bgF,if_neg h8,if_pos hd]
   rw[bgN,bgD,if_neg (by rw[e1];decide),if_neg (by rw[e1];decide),e1,ev_ne (by decide)]
   rw[hd] at K1
   go_enter Tryz.func72,Tryz.ntmps72
   go_wp2_with (go_at_call 100;refine K1.mono ?_;rintro e w2 ⟨rfl,hw⟩;have:=hw.symm;subst this)
   go_ret2
   exact⟨rfl,⟨cc,L,Tb,M,D,hx,htl,fun j hj=>.inl (hF j hj)⟩,.refl _ _⟩
  | false=>
   have e1:bgF d=0:=by rw[bgF,if_neg h8,if_neg (by rw[hd];decide)]
   rw[bgN,bgD,if_pos e1,if_pos e1,e1,ev_0]
   rw[hd] at K1
   have hi0:=ok.i0
   have hB:F B:=hF B (by rw[hx.cB];decide)
   have hM:F M:=hF M (by rw[hx.cM];decide)
   have f3:=hx.fz 3 (by decide)
   have hnone:opI d (d.ids+1)=none:=opI_none.2 (fun o hm e=>by have:=(ok.op o hm).i2;omega)
   have hx2:=hx.set3 (d.ids+1)
   have bt2:But F w (w.setCell ⟨B,3,none⟩ (.int .i64 (d.ids+1))):=(But.refl _ _).setCell (p:=⟨B,3,none⟩) (.inl hB) _
   obtain⟨W,hW⟩:∃ W,W=w.setCell ⟨B,3,none⟩ (.int .i64 (d.ids+1)):=⟨_,rfl⟩
   rw[<- hW] at hx2 bt2
   have hWs:W.heap.size=w.heap.size:=by rw[hW];simp[World.setCell]
   have hx3:=hx2.step (below_self W).drew
   have K2:=dxTop hx3
   have K3:=dkBegun d.top W.drew
   have m2:W.drew.cell? ⟨B,2,none⟩=some (.map (some M)):=hx2.c2
   have m3:W.drew.cell? ⟨B,3,none⟩=some (.int .i64 (d.ids+1)):=hx2.c3
   have hBl:B<W.drew.heap.size:=hx2.ltB
   have hBM:¬ B=M:=fun e=>by have h1:=hx.cB;have h2:=hx.cM;rw[e,h2] at h1;cases h1
   go_enter Tryz.func72,Tryz.ntmps72
   go_wp2_with (go_at_call 100;refine K1.mono ?_;rintro e w2 ⟨rfl,hw⟩;have:=hw.symm;subst this)
   rw[<- hW]
   replace hW:Hid _:=hW
   replace hWs:Hid _:=hWs
   replace htl:Hid _:=htl
   replace hsz:Hid _:=hsz
   go_region_held3 (fun wy=>wy.cell? ⟨B,2,none⟩=some (.map (some M))/\wy.cell? ⟨B,3,none⟩=some (.int .i64 (d.ids+1)))
    (first|exact⟨m2,m3⟩|exact⟨k2,k3⟩|exact⟨q2,q3⟩)
    (first
     | (go_at_call 92;refine K2.mono ?_;rintro e w3 ⟨rfl,hw⟩;have:=hw.symm;subst this)
     | (go_at_call 101;refine K3.mono ?_;rintro e w4 ⟨b,rfl,tx,hb4⟩;have k2:=(hb4.cell (p:=⟨B,2,none⟩) hBl).trans m2;have k3:=(hb4.cell (p:=⟨B,3,none⟩) hBl).trans m3;obtain⟨n4,ho4⟩:=(hx3.step hb4).own;have ho5:=own_tight ho4;rw[(hx3.step hb4).size ok.ids] at ho5;obtain⟨w5,hput,own5,hg5⟩:=ho5.update keyedI Tryz.underlying61 (by unfold maxLen;omega) (keyInt ⟨by omega,by omega⟩:keyOf Tryz.prog 3 (.int .i64 (d.ids+1))=some (kI (d.ids+1))) (val:=.pointer (some ⟨b,0,none⟩)) (d:=.held (.pointer (some ⟨b,0,none⟩))) (ps:=[]) rfl;have b5:=grown_butM hg5;have hB4:B<w4.heap.size:=Nat.lt_of_lt_of_le hBl hb4.size;have q2:=(b5.cell (p:=⟨B,2,none⟩) hB4 hBM).trans k2;have q3:=(b5.cell (p:=⟨B,3,none⟩) hB4 hBM).trans k3))
   clear hput ho5 ho4 k2 k3 m2 m3 hg5 q2 hln
   go_wp2_with fail
   go_ret2
   have s4:W.heap.size<=w4.heap.size:=hb4.size
   have s5:=b5.size
   have hX:=hx3.adds (i:=d.ids+1) (o:=⟨d.ids+1,d.last,0,[],[],[]⟩) (ox':=opI { d with ids:=d.ids+1,op:=d.op ++ [⟨d.ids+1,d.last,0,[],[],[]⟩] }) (by omega) hb4 ⟨_,[],_,.map [],by have tx':=tx;rw[htl.out] at tx';exact tx',AskR.new _ _,OwnR.new⟩ own5 b5 (fun j=>opI_app d ⟨d.ids+1,d.last,0,[],[],[]⟩ _ _ _ _ _ hnone j)
   have hW':=hWs.out
   refine⟨rfl,⟨_,L,Tb,M,_,hX,htl.out,fun j hj=>?_⟩,(bt2.drew.step hb4).then b5 (fun j _ e=>by rw[e];exact hM)⟩
   rcases rc_F hF j hj with e|e
   ·exact .inl e
   ·have e1:W.heap.size<=j:=e.1
    exact .inr ⟨by omega,e.2⟩
end Go.Proofs.YtcjdoeclblhaeaaGreatDoor
namespace Go.Proofs.YtcjdoeclblhaeaaGreatDoor
open Go.RowKit Go.Maps Vs
theorem DX.asked {w w1 w2:World} {cc:Nat->Int} {B L Tb M b:Nat} {D:DataW Value} {d:Dk} {F:Nat->Prop} {i:Int} {o o':Ox} {v:Value} {qs:List Pr} {Mo:Nat} {Do:DataW Value} (hx:DX w cc B L Tb M D d.ids (sfN d) d.lg d.vs d.top (opI d)) (hF:∀ j,cc j≠0->F j) (hi:opI d i=some o) (oi:o.id=i) (hb:look D (kI i)=some (.pointer (some ⟨b,0,none⟩)))
  (hb1:Below w.heap.size w w1) (X:TX w2 (Nw (fun j=>cc j=i) w1 w2) b o.sees v qs Mo Do) (hB:But (fun j=>cc j=i) w1 w2) (hq:AskR qs o') (hO:OwnR Do o'.own) (e1:o'.id=o.id) (e2:o'.sees=o.sees) :
  DX w2 (rc cc i w1 w2) B L Tb M D d.ids (sfN d) d.lg d.vs d.top (opI (opSet d o'))/\(∀ j,rc cc i w1 w2 j≠0->Nw F w w2 j)/\But F w w2:=by
 have hx1:=hx.step hb1
 have hi1:=(hx.tx i o hi).1
 have s1:=hb1.size
 refine⟨?_,fun j hj=>?_,rc_but hF (by omega) ((But.below hb1:But (fun j=>cc j=i) w _).then hB (fun j _ e=>e))⟩
 ·exact hx1.txs (o':=o') hi hb ⟨v,qs,Mo,Do,by rw[e2];exact X,hq,hO⟩ hB (fun j=>by rw[opI_set (o:=o) (o':=o') (by rw[oi];exact hi) e1,oi])
 ·rcases rc_F hF j hj with e|e
  ·exact .inl e
  ·exact .inr ⟨by omega,e.2⟩
theorem dkGet {w:World} {F:Nat->Prop} {B:Nat} {d:Dk} (i:Int) (k:ByteArray) (h:DT w F B d) (ok:OkD d) (hvl:d.vs.length<=1000) (hk:k.size<=maxLen) :
  Calls Tryz.prog 202 #[.pointer (some ⟨B,0,none⟩),.int .i64 i,.string k] w fun e w'=>e=.returned (.tuple #[.string (dgS d i k),ev (dgF d i k)])/\DT w' (Nw F w w') B (dgD d i k)/\But F w w':=by
 obtain⟨cc,L,Tb,M,D,hx,htl,hF⟩:=h
 have hsame:∀ w',Below w.heap.size w w'->DT w' (Nw F w w') B d:=fun w' hb=>⟨cc,L,Tb,M,D,hx.step hb,htl,fun j hj=>.inl (hF j hj)⟩
 cases hi:opI d i with
 | none=>
  rw[show dgS d i k=ByteArray.empty from by rw[dgS,hi],show dgF d i k=4 from by rw[dgF,hi],show dgD d i k=d from by rw[dgD,hi],ev_ne (by decide)]
  have K:=dkFindNo hx i hi
  go_enter Tryz.func202,Tryz.ntmps202
  go_wp2_with (go_at_call 138;refine K.mono ?_;rintro e w2 ⟨rfl,hw⟩;have:=hw.symm;subst this)
  go_ret2
  exact⟨rfl,hsame _ (below_self _),.refl _ _⟩
 | some o=>
  obtain⟨h1,b,hb,v,qs,Mo,Do,tx,hq,hO⟩:=hx.tx i o hi
  obtain⟨om,oi⟩:=opI_some hi
  have oko:=ok.op o om
  have K:=dkFind hx i hb
  have K2:=dkKey k
  by_cases hs0:shF k ByteArray.empty=0
  ·rw[hs0,ev_0] at K2
   have hks:=shF_ok hs0
   have hk24:k.size<9223372036854775807:=by omega
   have K3:=dkOnly k w hk24
   have hlq:=hq.len
   by_cases h100:100<=o.asked
   ·rw[show dgS d i k=ByteArray.empty from by rw[dgS,hi];simp only;rw[if_pos hs0,if_pos h100],show dgF d i k=3 from by rw[dgF,hi];simp only;rw[if_pos hs0,if_pos h100],show dgD d i k=d from by rw[dgD,hi];simp only;rw[if_pos hs0,if_pos h100],ev_ne (by decide)]
    have ha:=oko.a1
    have K4:=fun (w2:World) (hb2:Below w.heap.size w w2)=>dkAskNo (tx.step hb2) k (kz k) (by omega) (by omega)
    clear hs0
    go_enter Tryz.func202,Tryz.ntmps202
    go_wp2_with (first
     | (go_at_call 138;refine K.mono ?_;rintro e w2 ⟨rfl,hw⟩;have:=hw.symm;subst this)
     | (go_at_call 245;refine (K2 _).mono ?_;rintro e w3 ⟨rfl,hw⟩;have:=hw.symm;subst this)
     | (go_at_call 142;refine K3.mono ?_;rintro e w4 ⟨rfl,hb4⟩)
     | (go_at_call 246;refine (K4 _ hb4).mono ?_;rintro e w5 ⟨rfl,hb5⟩))
    go_ret2
    exact⟨rfl,hsame _ (below_via hb4 hb5),.below (below_via hb4 hb5)⟩
   ·have K4:=fun (w2:World) (hb2:Below w.heap.size w w2)=>dkAskOk (tx.step hb2) k (kz k) (by omega)
    have hgS:dgS d i k=(seeO d.vs o.sees o.own k).getD ByteArray.empty:=by rw[dgS,hi];simp only;rw[if_pos hs0,if_neg h100]
    have hgF:dgF d i k=if (seeO d.vs o.sees o.own k).isSome=true then 0 else 4:=by rw[dgF,hi];simp only;rw[if_pos hs0,if_neg h100]
    have hgD:dgD d i k=opSet d (askK o k):=by rw[dgD,hi];simp only;rw[if_pos hs0,if_neg h100]
    rw[hgS,hgF,hgD]
    have hq2:=hq.key k
    cases hc:ownC o.own k with
    | none=>
     have hsee:seeO d.vs o.sees o.own k=vget d.vs k o.sees:=by rw[seeO,hc]
     have hat:=sees_at ok om
     have hgt:gtS d.vs k o.sees=(seeO d.vs o.sees o.own k).getD ByteArray.empty:=by rw[hsee];exact if_pos hat
     have hgf:gtF d.vs k o.sees=if (seeO d.vs o.sees o.own k).isSome=true then 0 else 4:=by rw[hsee];exact if_pos hat
     rw[<- hgt,<- hgf]
     have K5:=fun (w5:World) (Gt:Nat->Prop) (ht:Tab w5 Gt Tb d.vs d.top)=>get k o.sees w5 ht ok.tb hvl hk
     generalize gtS d.vs k o.sees=S at K5 ⊢
     generalize gtF d.vs k o.sees=Fl at K5 ⊢
     clear hs0 hgS hgF hgD hsee hat hgt hgf
     go_enter Tryz.func202,Tryz.ntmps202
     go_wp2_with (first
      | (go_at_call 138;refine K.mono ?_;rintro e w2 ⟨rfl,hw⟩;have:=hw.symm;subst this)
      | (go_at_call 245;refine (K2 _).mono ?_;rintro e w3 ⟨rfl,hw⟩;have:=hw.symm;subst this)
      | (go_at_call 142;refine K3.mono ?_;rintro e w4 ⟨rfl,hb4⟩)
      | (go_at_call 246;refine (K4 _ hb4).mono ?_;rintro e w5 ⟨rfl,⟨v5,X5⟩,B5⟩;have k2:=X5.c2;have k0:=X5.c0;obtain⟨n5,ho5⟩:=X5.own;have l1:=run_lookS 173 215 true Tryz.underlying173 (zeroChg w5) ho5 k hk;rw[hO k,hc] at l1;simp only [if_true,Option.map_none,Option.getD_none,Option.isSome_none] at l1))
     obtain⟨hX,hF',hB'⟩:=DX.asked (o':=askK o k) hx hF hi oi hb hb4 X5 B5 hq2 hO rfl rfl
     have hb6:=(below_al (below_self w5) (.cells #[.string { data:=#[] },.string { data:=#[] },.bool false] 215)).drew
     have hX6:=hX.step hb6
     have X6:=X5.step hb6
     have m1:=hX6.c1
     have m0:=X6.c0
     clear l1 k2 k0 K K2 K3 K4
     go_region_held3 (fun wy=>wy.cell? ⟨B,1,none⟩=some (.pointer (some ⟨Tb,0,none⟩))/\wy.cell? ⟨b,0,none⟩=some (.int .i64 o.sees))
      (first|exact⟨m1,m0⟩|exact⟨q1,q0⟩)
      (first|(go_at_call 247;refine (K5 _ _ hX6.tb).mono ?_;rintro e w7 ⟨rfl,hb7⟩;have q1:=(hb7.cell (p:=⟨B,1,none⟩) hX6.ltB).trans m1;have q0:=(hb7.cell (p:=⟨b,0,none⟩) X6.lt).trans m0))
     go_wp2_with fail
     go_ret2
     have hb8:=below_via hb6 hb7
     exact⟨rfl,⟨_,L,Tb,M,D,hX.step hb8,htl,fun j hj=>(hF' j hj).imp id (fun e=>⟨e.1,Nat.lt_of_lt_of_le e.2 hb8.size⟩)⟩,hB'.step hb8⟩
    | some c=>
     have hsee:seeO d.vs o.sees o.own k=if c.g=true then none else some c.v:=by rw[seeO,hc]
     rw[hsee]
     clear hs0 hgS hgF hgD hsee
     have fin:∀ (w4 w5:World) (v5:Value),Below w.heap.size w w4->TX w5 (Nw (fun j=>cc j=i) w4 w5) b o.sees v5 (qs ++ [(k,kz k)]) Mo Do->But (fun j=>cc j=i) w4 w5 -> ∀ ob,DT (w5.alloc ob) (Nw F w (w5.alloc ob)) B (opSet d (askK o k))/\But F w (w5.alloc ob):=fun w4 w5 v5 hb4 X5 B5 ob=>by
      obtain⟨hX,hF',hB'⟩:=DX.asked (o':=askK o k) hx hF hi oi hb hb4 X5 B5 hq2 hO rfl rfl
      have hb8:=below_al (below_self w5) ob
      exact⟨⟨_,L,Tb,M,D,hX.step hb8,htl,fun j hj=>(hF' j hj).imp id (fun e=>⟨e.1,Nat.lt_of_lt_of_le e.2 hb8.size⟩)⟩,hB'.step hb8⟩
     cases hg:c.g
     ·rw[if_neg (by decide)]
      go_enter Tryz.func202,Tryz.ntmps202
      go_wp2_with (first
       | (go_at_call 138;refine K.mono ?_;rintro e w2 ⟨rfl,hw⟩;have:=hw.symm;subst this)
       | (go_at_call 245;refine (K2 _).mono ?_;rintro e w3 ⟨rfl,hw⟩;have:=hw.symm;subst this)
       | (go_at_call 142;refine K3.mono ?_;rintro e w4 ⟨rfl,hb4⟩)
       | (go_at_call 246;refine (K4 _ hb4).mono ?_;rintro e w5 ⟨rfl,⟨v5,X5⟩,B5⟩;have k2:=X5.c2;have k0:=X5.c0;obtain⟨n5,ho5⟩:=X5.own;have l1:=run_lookS 173 215 true Tryz.underlying173 (zeroChg w5) ho5 k hk;rw[hO k,hc] at l1;simp only [if_true,Option.map_some,Option.getD_some,Option.isSome_some,chM,hg] at l1))
      go_ret2
      obtain⟨f1,f2⟩:=fin w4 w5 v5 hb4 X5 B5 (.cells #[.string c.k,.string c.v,.bool false] 215)
      exact⟨rfl,f1,f2⟩
     ·rw[if_pos rfl]
      go_enter Tryz.func202,Tryz.ntmps202
      go_wp2_with (first
       | (go_at_call 138;refine K.mono ?_;rintro e w2 ⟨rfl,hw⟩;have:=hw.symm;subst this)
       | (go_at_call 245;refine (K2 _).mono ?_;rintro e w3 ⟨rfl,hw⟩;have:=hw.symm;subst this)
       | (go_at_call 142;refine K3.mono ?_;rintro e w4 ⟨rfl,hb4⟩)
       | (go_at_call 246;refine (K4 _ hb4).mono ?_;rintro e w5 ⟨rfl,⟨v5,X5⟩,B5⟩;have k2:=X5.c2;have k0:=X5.c0;obtain⟨n5,ho5⟩:=X5.own;have l1:=run_lookS 173 215 true Tryz.underlying173 (zeroChg w5) ho5 k hk;rw[hO k,hc] at l1;simp only [if_true,Option.map_some,Option.getD_some,Option.isSome_some,chM,hg] at l1))
      go_ret2
      obtain⟨f1,f2⟩:=fin w4 w5 v5 hb4 X5 B5 (.cells #[.string c.k,.string c.v,.bool true] 215)
      exact⟨rfl,f1,f2⟩
  ·have hs2:shF k ByteArray.empty=2:=by
    unfold shF at hs0 ⊢
    split
    ·rfl
    ·rename_i g;rw[if_neg g] at hs0;exact absurd rfl hs0
   rw[show dgS d i k=ByteArray.empty from by rw[dgS,hi];simp only;rw[if_neg hs0],show dgF d i k=2 from by rw[dgF,hi];simp only;rw[if_neg hs0],show dgD d i k=d from by rw[dgD,hi];simp only;rw[if_neg hs0],ev_ne (by decide)]
   rw[hs2,ev_ne (by decide)] at K2
   clear hs0 hs2
   go_enter Tryz.func202,Tryz.ntmps202
   go_wp2_with (first
    | (go_at_call 138;refine K.mono ?_;rintro e w2 ⟨rfl,hw⟩;have:=hw.symm;subst this)
    | (go_at_call 245;refine (K2 _).mono ?_;rintro e w3 ⟨rfl,hw⟩;have:=hw.symm;subst this))
   go_ret2
   exact⟨rfl,hsame _ (below_self _),.refl _ _⟩
end Go.Proofs.YtcjdoeclblhaeaaGreatDoor
namespace Go.Proofs.YtcjdoeclblhaeaaGreatDoor
open Go.RowKit Go.Maps Vs
theorem over1 {w:World} {G:Nat->Prop} {b Bt:Nat} {sees:Int} {v:Value} {qs:List Pr} {M:Nat} {D:DataW Value} {own:List Chg} (h:TX w G b sees v qs M D) (hO:OwnR D own) (hBt:w.cell? ⟨Bt,0,none⟩=some (.pointer (some ⟨b,0,none⟩))) (x:Pr) (hk:x.1.size<=maxLen) :
  Calls Tryz.prog 297 #[.agg #[.string x.1,.string x.2],.pointer (some ⟨Bt,0,none⟩)] w fun e w'=>e=.returned (.bool (ownC own x.1).isSome)/\Below w.heap.size w w':=by
 obtain⟨n,ho⟩:=h.own
 have hltB:Bt<w.heap.size:=World.block_lt_of_cell? _ _ hBt
 have hb1:=below_al (below_self w) (.cells #[.string x.1,.string x.2] 141)
 have c1:(w.alloc (.cells #[.string x.1,.string x.2] 141)).cell? ⟨Bt,0,none⟩=some (.pointer (some ⟨b,0,none⟩)):=(hb1.cell (p:=⟨Bt,0,none⟩) hltB).trans hBt
 have c2:(w.alloc (.cells #[.string x.1,.string x.2] 141)).cell? ⟨b,2,none⟩=some (.map (some M)):=(hb1.cell (p:=⟨b,2,none⟩) h.lt).trans h.c2
 have hb2:=below_al hb1 (.cells #[.string { data:=#[] },.string { data:=#[] },.bool false] 215)
 have d1:((w.alloc (.cells #[.string x.1,.string x.2] 141)).alloc (.cells #[.string { data:=#[] },.string { data:=#[] },.bool false] 215)).cell? ⟨Bt,0,none⟩=some (.pointer (some ⟨b,0,none⟩)):=(hb2.cell (p:=⟨Bt,0,none⟩) hltB).trans hBt
 have d2:((w.alloc (.cells #[.string x.1,.string x.2] 141)).alloc (.cells #[.string { data:=#[] },.string { data:=#[] },.bool false] 215)).cell? ⟨b,2,none⟩=some (.map (some M)):=(hb2.cell (p:=⟨b,2,none⟩) h.lt).trans h.c2
 have ho1:(w.alloc (.cells #[.string x.1,.string x.2] 141)).drew.ownsMap Tryz.prog 9 anyE M n D:=ho.alloc _
 have ho2:((w.alloc (.cells #[.string x.1,.string x.2] 141)).alloc (.cells #[.string { data:=#[] },.string { data:=#[] },.bool false] 215)).drew.ownsMap Tryz.prog 9 anyE M n D:=(ho.alloc (.cells #[.string x.1,.string x.2] 141)).alloc _
 have l1:=run_lookS 173 215 true Tryz.underlying173 (zeroChg _) ho1 x.1 hk
 have l2:=run_lookS 173 215 true Tryz.underlying173 (zeroChg _) ho2 x.1 hk
 have hlb:=h.lt
 rw[hO x.1] at l1 l2
 cases e:ownC own x.1 with
 | none=>
  rw[e] at l1 l2
  simp only [if_true,Option.map_none,Option.getD_none,Option.isSome_none] at l1 l2
  clear e
  go_enter Tryz.func297,Tryz.ntmps297
  go_wp2
  go_region
  all_goals go_wp2
  all_goals go_ret
  all_goals exact⟨rfl,hb2.drew⟩
 | some c=>
  rw[e] at l1 l2
  simp only [if_true,Option.map_some,Option.getD_some,Option.isSome_some] at l1 l2
  have hb3:=below_al hb1 (.cells #[.string c.k,.string c.v,.bool c.g] 215)
  clear e
  go_enter Tryz.func297,Tryz.ntmps297
  go_wp2
  go_region
  all_goals go_wp2
  all_goals go_ret
  all_goals exact⟨rfl,hb3.drew⟩
theorem RowIn.setCells {e g:Nat}:∀ (vs:List Value) (o:Nat) (w:World) (cs:List Value),RowIn w e g cs -> ∃ cs',RowIn (w.setCells g o vs) e g cs'/\cs'.length=cs.length/\cs'.take o=cs.take o
 | [],_,_,cs,h=>⟨cs,h,rfl,rfl⟩
 | u :: r,o,_,cs,h=>by
  obtain⟨cs',h1,h2,h3⟩:=RowIn.setCells r (o+1) _ _ (h.set o u)
  refine⟨cs',h1,by rw[h2,List.length_set],?_⟩
  have:=congrArg (List.take o) h3
  rw[List.take_take,List.take_take,Nat.min_eq_left (by omega),List.take_set_of_le (by omega)] at this
  exact this
theorem but_setRow {g:Nat} {a:World}:∀ (vs:List Value) (o:Nat) (w:World),But (fun j=>j=g) a w->But (fun j=>j=g) a (w.setCells g o vs)
 | [],_,_,h=>h
 | u :: r,o,_,h=>but_setRow r (o+1) _ (h.setCell (.inl rfl) u)
theorem runClear {w:World} {g o n c:Nat} {cs:List Value} (ty:TypeId) (h:RowIn w 141 g cs) (hn:0<n) (ho:o+n*2<=cs.length) :
  ∃ w' cs',(Builtin.clear_ #[138] ty #[.slice (some ⟨g,o,none⟩) n c]).run Tryz.prog w=.ok (.tuple #[]) w'/\RowIn w' 141 g cs'/\cs'.length=cs.length/\cs'.take o=cs.take o/\But (fun j=>j=g) w w':=by
 have hzl:(Builtin.zeroCells (Value.agg #[.string { data:=#[] },.string { data:=#[] }]).cells n).toList.length=n*2:=by
  simp[Builtin.zeroCells,Value.cells]
 have h1:∀ u∈(Builtin.zeroCells (Value.agg #[.string { data:=#[] },.string { data:=#[] }]).cells n).toList,u.oneCell'=true:=by
  intro u hu
  simp[Builtin.zeroCells,Value.cells] at hu
  obtain⟨j,hj,rfl⟩:=hu
  rcases Nat.mod_two_eq_zero_or_one j with e|e <;> simp[e,Value.oneCell']
 generalize hZ:(Builtin.zeroCells (Value.agg #[.string { data:=#[] },.string { data:=#[] }]).cells n).toList=Z at hzl h1
 have hst:=run_storeCells_cells (P:=Tryz.prog) g o Z 0 w (fun j hj=>by
  rw[h.cell,List.getElem?_eq_getElem (by omega)];rfl) (fun j hj=>h.frozen _) h1
 obtain⟨cs',r1,r2,r3⟩:=RowIn.setCells Z o w cs h
 obtain⟨m,rfl⟩:∃ m,n=m+1:=⟨n - 1,by omega⟩
 refine⟨_,cs',?_,r1,r2,r3,but_setRow Z o w (.refl _ _)⟩
 simp only [Nat.add_zero] at hst
 simp[Builtin.clear_,run_underlying Tryz.underlying138,hZ,hst]
structure Dlt (P:Pr->Bool) (l:List Pr) (cs:List Value) (m k:Nat):Prop where
 n:m=((l.take k).filter (fun x => !P x)).length
 d:cs.take (m*2)=prV ((l.take k).filter (fun x => !P x))
 r:∀ i x,k<=i->l[i]? = some x->cs[i*2]? = some (.string x.1)/\cs[i*2+1]? = some (.string x.2)
theorem take_more {l:List Pr} {k:Nat} {x:Pr} (h:l[k]? = some x):l.take (k+1)=l.take k ++ [x]:=by
 rw[List.take_add_one,h];rfl
theorem Dlt.gone {P:Pr->Bool} {l:List Pr} {cs:List Value} {m k:Nat} {x:Pr} (h:Dlt P l cs m k) (hx:l[k]? = some x) (hp:P x=true):Dlt P l cs m (k+1):=by
 have e:(l.take (k+1)).filter (fun x => !P x)=(l.take k).filter (fun x => !P x):=by rw[take_more hx,List.filter_append];simp[hp]
 exact⟨by rw[e];exact h.n,by rw[e];exact h.d,fun i y hi=>h.r i y (by omega)⟩
theorem Dlt.stays {P:Pr->Bool} {l:List Pr} {cs:List Value} {m k:Nat} {x:Pr} (h:Dlt P l cs m k) (hx:l[k]? = some x) (hp:P x=false) (hm:m<k) (hc:l.length*2<=cs.length):Dlt P l ((cs.set (m*2) (.string x.1)).set (m*2+1) (.string x.2)) (m+1) (k+1):=by
 have e:(l.take (k+1)).filter (fun x => !P x)=(l.take k).filter (fun x => !P x) ++ [x]:=by rw[take_more hx,List.filter_append];simp[hp]
 have hk:k<l.length:=(List.getElem?_eq_some_iff.1 hx).1
 refine⟨by rw[e,List.length_append,<- h.n];rfl,?_,fun i y hi hy=>?_⟩
 ·rw[e,prV_app,<- h.d]
  apply List.ext_getElem?
  intro j
  by_cases h1:j<m*2
  ·rw[List.getElem?_take_of_lt (by omega),List.getElem?_set_ne (by omega),List.getElem?_set_ne (by omega),List.getElem?_append_left (by rw[List.length_take];omega),List.getElem?_take_of_lt h1]
  ·rw[List.getElem?_append_right (by rw[List.length_take];omega),List.length_take,Nat.min_eq_left (by omega)]
   by_cases h2:j=m*2
   ·subst h2
    rw[List.getElem?_take_of_lt (by omega),List.getElem?_set_ne (by omega),List.getElem?_set_self (by omega)]
    simp[prV]
   ·by_cases h3:j=m*2+1
    ·subst h3
     rw[List.getElem?_take_of_lt (by omega),List.getElem?_set_self (by rw[List.length_set];omega),show m*2+1 - m*2=1 from by omega]
     simp[prV]
    ·rw[List.getElem?_take_eq_none (by omega),List.getElem?_eq_none (by simp[prV];omega)]
 ·obtain⟨a,b⟩:=h.r i y (by omega) hy
  rw[List.getElem?_set_ne (by omega),List.getElem?_set_ne (by omega),List.getElem?_set_ne (by omega),List.getElem?_set_ne (by omega)]
  exact⟨a,b⟩
theorem deletePr (g:Nat) (lb:Array Value) (eg:∀ args w,(callFunc g args).run Tryz.prog w=.ok (.enter g args) w) (P:Pr->Bool) (B:Nat) (v:Value) (l:List Pr) (w:World) (hz:l.length<=1000000) (hown:w.ownsRow B 141 2 v l.length (prV l)) 
  (hF:∀ (x:Pr) (w1:World),x∈l->But (fun j=>v.ownBlock=some j) w w1->Calls Tryz.prog g (#[.agg #[.string x.1,.string x.2]]++lb) w1 fun e w'=>e=.returned (.bool (P x))/\Below w1.heap.size w1 w') :
  Calls Tryz.prog 296 #[v,.func (.func g) #[] lb] w fun e w'=>∃ u,e=.returned u/\w'.ownsRow B 141 2 u (l.filter (fun x => !P x)).length (prV (l.filter (fun x => !P x)))/\But (fun j=>v.ownBlock=some j) w w'/\(∀ j,u.ownBlock=some j->v.ownBlock=some j):=by
 obtain⟨q,cap,rfl⟩:=own_form hown
 have hI:=indexPr g lb eg P q cap l w hz (prAt_own hown).2 (fun x w1 hx hb=>hF x w1 hx (.below hb))
 rcases idxP_at P l 0 with ⟨h1,h2⟩|⟨i,x,h1,h2,h3,h4⟩
 ·rw[h1] at hI
  have hE:Hid (l.filter (fun x => !P x)=l):=List.filter_eq_self.2 (fun x hx=>by simp[h2 x hx])
  clear h1 h2 hF
  go_enter Tryz.func296,Tryz.ntmps296
  go_wp2_with fail
  refine hI.mono ?_
  rintro e w1 ⟨rfl,hb⟩
  go_wp2
  go_ret
  exact⟨_,rfl,by rw[hE.out];exact own_below hown hb,.below hb,fun _ h=>h⟩
 ·rw[h1,Int.zero_add] at hI
  have hil:i<l.length:=(List.getElem?_eq_some_iff.1 h2).1
  obtain⟨gb,c,hq⟩:=own_block hown (by omega)
  obtain⟨rfl,rfl⟩:q=some ⟨gb,0,none⟩/\cap=c:=by injection hq;exact⟨by assumption,by assumption⟩
  obtain⟨rest,hR,hBg,hcap,hmax,hlen⟩:=rowIn_own hown
  have hD:Hid (Dlt P l (prV l++rest) i (i+1)):=by
   have e1:(l.take (i+1)).filter (fun x => !P x)=l.take i:=by
    rw[take_more h2,List.filter_append,List.filter_eq_self.2 (fun y hy=>by simp[h4 y hy])]
    simp[h3]
   have e2:(l.take i).length=i:=by rw[List.length_take];omega
   refine⟨by rw[e1,e2],?_,fun j y _ hy=>?_⟩
   ·rw[e1]
    have e3:prV l=prV (l.take i)++prV (l.drop i):=by rw[<- prV_app,List.take_append_drop]
    rw[e3,List.append_assoc,List.take_append_of_le_length (by rw[prV_len,e2];exact Nat.le_refl _),List.take_of_length_le (by rw[prV_len,e2];exact Nat.le_refl _)]
   ·obtain⟨a,b⟩:=prV_at l j y hy
    have hj:j<l.length:=(List.getElem?_eq_some_iff.1 hy).1
    have hp:=prV_len l
    rw[List.getElem?_append_left (by omega),List.getElem?_append_left (by omega)]
    exact⟨a,b⟩
  have hgl:=hR.lt
  clear h1 h2 h3 h4 hq
  generalize hcs:prV l++rest=cs0 at hR hlen hD
  clear hcs
  go_enter Tryz.func296,Tryz.ntmps296
  go_wp2_with fail
  refine hI.mono ?_
  clear hI
  rintro e w1 ⟨rfl,hb1⟩
  have hR1:=hR.keep hb1
  have hbB:But (fun j=>j=gb) w w1:=.below hb1
  have hs1:=hb1.size
  clear hb1 hR hown
  have hne:((i:Int) == -1)=false:=beq_eq_false_iff_ne.2 (by omega)
  go_wp2
  go_loopw [5,6] (fun u z wr=>∃ (m k:Nat) (cs:List Value),u=.int .i64 m/\z=.int .i64 k/\k<=l.length/\m<k/\RowIn wr 141 gb cs/\cs.length=cap*2/\Hid (Dlt P l cs m k)/\But (fun j=>j=gb) w wr) (fun _ z _=>l.length - (intOf z).toNat)
  case atStart=>exact⟨i,i+1,cs0,rfl,by go_num,by omega,by omega,hR1,hlen,hD,hbB⟩
  case round=>
   obtain⟨m,k,cs,rfl,rfl,hk,hm,hRr,hl2,hDr,hb⟩:=hrel
   by_cases hlt:k<l.length
   ·have hlt':(k:Int)<(l.length:Int):=by omega
    obtain⟨x,hx⟩:∃ x,l[k]? = some x:=⟨l[k],List.getElem?_eq_getElem hlt⟩
    obtain⟨r1,r2⟩:=hDr.out.r k x (by omega) hx
    have c0:wr.cell? ⟨gb,k*2,none⟩=some (.string x.1):=(hRr.cell _).trans r1
    have c1:wr.cell? ⟨gb,k*2+1,none⟩=some (.string x.2):=(hRr.cell _).trans r2
    have hb2:=hb.alloc (.cells #[.string x.1,.string x.2] 141)
    have HF:=hF x _ (List.mem_of_getElem? hx) (hb2.mono (fun j _ e=>by rw[e];rfl))
    have hR2:=hRr.keep (below_al (below_self wr) (.cells #[.string x.1,.string x.2] 141))
    have hgr:=hRr.lt
    cases hp:P x
    ·have hD2:Hid (Dlt P l ((cs.set (m*2) (.string x.1)).set (m*2+1) (.string x.2)) (m+1) (k+1)):=hDr.out.stays hx hp hm (by omega)
     rw[hp] at HF
     clear hDr hx r1 r2 hp hF
     go_wp2_with (go_at_fn g;refine HF.mono ?_;rintro e w3 ⟨rfl,hb3⟩;have hR3:=hR2.keep hb3;have z0:w3.cell? ⟨gb,m*2,none⟩=cs[m*2]? := hR3.cell _;have z1:w3.cell? ⟨gb,m*2+1,none⟩=cs[m*2+1]? := hR3.cell _;rw[List.getElem?_eq_getElem (by omega)] at z0 z1;have f0:=hR3.frozen (m*2);have f1:=hR3.frozen (m*2+1);have n0:=(hb3.cell (p:=⟨wr.heap.size,0,none⟩) (by simp));have n1:=(hb3.cell (p:=⟨wr.heap.size,1,none⟩) (by simp));simp at n0 n1)
     exact⟨⟨m+1,k+1,_,by go_num,by go_num,by omega,by omega,(hR3.set _ _).set _ _,by rw[List.length_set,List.length_set];exact hl2,hD2,((hb2.step hb3).setCell (.inl rfl) _).setCell (.inl rfl) _⟩,by simp[intOf];omega⟩
    ·have hD2:Hid (Dlt P l cs m (k+1)):=hDr.out.gone hx hp
     rw[hp] at HF
     clear hDr hx r1 r2 hp hF
     go_wp2_with (go_at_fn g;refine HF.mono ?_;rintro e w3 ⟨rfl,hb3⟩;have hR3:=hR2.keep hb3)
     exact⟨⟨m,k+1,cs,rfl,by go_num,by omega,by omega,hR3,hl2,hD2,hb2.step hb3⟩,by simp[intOf];omega⟩
   ·have hmc:m<cap:=by omega
    have hk2:Hid (k=l.length):=by show _=_;omega
    clear hF
    obtain⟨w4,cs4,hr4,hR4,hl4,ht4,hb4⟩:=runClear 0 (o:=m*2) (n:=l.length - m) (c:=cap - m) hRr (by omega) (by omega)
    have hfin:w4.ownsRow B 141 2 (.slice (some ⟨gb,0,none⟩) m cap) (l.filter (fun x => !P x)).length (prV (l.filter (fun x => !P x))):=by
     have e1:=hDr.out.n
     have e2:=hDr.out.d
     rw[hk2.out,List.take_of_length_le (Nat.le_refl _)] at e1 e2
     rw[<- ht4] at e2
     rw[<- e1,<- e2]
     refine own_rowIn (rest:=cs4.drop (m*2)) (by rw[List.take_append_drop];exact hR4) (by rw[List.length_take];omega) hBg (by omega) hmax (by rw[List.take_append_drop];omega)
    have hbf:=hb.trans hb4
    clear hDr hRr hR4 hl4 ht4 hb4 hk2
    go_wp2
    go_ret
    exact⟨_,rfl,hfin,hbf.mono (fun j _ e=>by rw[e];rfl),fun _ h=>h⟩
end Go.Proofs.YtcjdoeclblhaeaaGreatDoor
