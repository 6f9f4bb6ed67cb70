/- -/
import Derived.Test.YtcjdoeclblhaeaaGreatDoorRRnA
import Derived.Test.YtcjdoeclblhaeaaGreatDoorRAdStrB
import Derived.Test.YtcjdoeclblhaeaaGreatDoorRAdErr
import Derived.Test.YtcjdoeclblhaeaaGreatDoorRPlA
set_option maxHeartbeats 4000000
set_option maxRecDepth 100000
namespace Go.Proofs.YtcjdoeclblhaeaaGreatDoor.Rn
open Go.RowKit
def IsEv (w:World) (g:Nat):Prop:=∃ ev:Value,w.cell? ⟨g,0,none⟩=some ev/\(ev=.nilIface \/ ∃ te pe,ev=.iface te pe)
theorem IsEv.step {w w':World} {g:Nat} (h:IsEv w g) (hb:Below w.heap.size w w'):IsEv w' g:=by
 obtain⟨v,h1,h2⟩:=h
 exact⟨v,(hb.cell (World.block_lt_of_cell? _ _ h1)).trans h1,h2⟩
structure Rv (w:World):Prop where
 en:Pa.En w
 pw:Pow10 w
 et:ErrType w
 es:IsEv w 5
 er:IsEv w 6
theorem Rv.step {w w':World} (h:Rv w) (hb:Below w.heap.size w w'):Rv w':=
 ⟨h.en.step hb,h.pw.step hb,(hb.cell (p:=⟨1,0,none⟩) (World.block_lt_of_cell? _ _ h.et)).trans h.et,h.es.step hb,h.er.step hb⟩
theorem Rv.mx {w:World} (h:Rv w):MaxL w:=h.en.mx
theorem itoaAny (n:Int) (w:World) (h0 : -9223372036854775808<=n) (h1:n<=9223372036854775807) (ht:Pow10 w) :
  Calls Tryz.prog 39 #[.int .i64 n] w fun e w'=>e=.returned (.string ⟨(Lib.itoa n).toArray⟩)/\Below w.heap.size w w':=by
 refine (Tryz.strconv_Itoa n h0 h1 w ht).mono ?_
 rintro e w' ⟨rfl,k,os,rfl⟩
 exact⟨rfl,Lib.below_grow _ _ (Nat.le_refl _) k os⟩
theorem atoiOk (l:List UInt8) (n:Int) (w:World) (hl:l.length<=4294967280) (h:Lib.atoiAll l=.ok n) :
  Calls Tryz.prog 77 #[.string ⟨l.toArray⟩] w fun e w'=>e=.returned (.tuple #[.int .i64 n,.nilIface])/\Below w.heap.size w w':=by
 refine (Tryz.strconv_Atoi_ok ⟨l.toArray⟩ (by simp[ByteArray.size];omega) n h w).mono ?_
 rintro e w' ⟨rfl,hw⟩
 rcases hw with rfl|⟨t,rfl⟩
 ·exact⟨rfl,below_self _⟩
 ·exact⟨rfl,Joins.below_bytesWorld _ _ _ _ (Nat.le_refl _)⟩
theorem atoiNo (l:List UInt8) (w:World) (R:Rv w) (hl:l.length<=4294967280) (h:∀ n,Lib.atoiAll l ≠ .ok n) :
  Calls Tryz.prog 77 #[.string ⟨l.toArray⟩] w fun e w'=>(∃ n te pe,e=.returned (.tuple #[.int .i64 n,.iface te pe]))/\Below w.heap.size w w':=by
 cases e:Lib.atoiAll l with
 | ok n=>exact absurd e (h n)
 | «syntax» =>
  obtain⟨v,h1,h2⟩:=R.es
  refine (Tryz.strconv_Atoi_syntax ⟨l.toArray⟩ (by simp[ByteArray.size];omega) e v w h1 h2).mono ?_
  rintro e w' ⟨N,rfl,_,_,hb⟩
  exact⟨⟨_,_,_,rfl⟩,hb⟩
 | range=>
  obtain⟨v,h1,h2⟩:=R.er
  refine (Tryz.strconv_Atoi_range ⟨l.toArray⟩ (by simp[ByteArray.size];omega) e v w h1 h2).mono ?_
  rintro e w' ⟨N,rfl,_,_,hb⟩
  exact⟨⟨_,_,_,rfl⟩,hb⟩
theorem number_ok (l:List UInt8) (n:Int) (w:World) (R:Rv w) (hl:l.length<=4294967280) (h:nmW l=.ok n) :
  Calls Tryz.prog 48 #[.string ⟨l.toArray⟩] w fun e w'=>e=.returned (.int .i64 n)/\Below w.heap.size w w':=by
 have hn:=nmW_bd h
 unfold nmW at h
 split at h
 ·rename_i m e
  split at h
  ·rename_i q
   injection h with h
   subst h
   have KA:=atoiOk l m w hl e
   have KI:=fun W hW=>itoaAny m W hn.1 hn.2 hW
   rw[q.1] at KI
   have q2:=q.2
   have tl:((Lib.trimPrefix l [45]).length:Int)<=9:=by omega
   have KT:=fun W=>Tryz.strings_TrimPrefix ⟨l.toArray⟩ ⟨#[45]⟩ W
   simp only [] at KT
   clear e q
   generalize Lib.trimPrefix l [45]=t at *
   go_enter Tryz.func48,Tryz.ntmps48
   go_wp2_with (first
    | (go_at_call 77;refine KA.mono ?_;clear KA;rintro e w1 ⟨rfl,hb1⟩)
    | (go_at_call 39;refine (KI _ (R.pw.step hb1)).mono ?_;clear KI;rintro e w2 ⟨rfl,hb2⟩)
    | (go_at_call 78;refine (KT _).mono ?_;clear KT;rintro e w3 ⟨rfl,hw3⟩;have:=hw3.symm;subst this))
   go_ret
   exact⟨rfl,below_via hb1 hb2⟩
  ·cases h
 ·cases h
theorem number_no (l:List UInt8) (f:Int) (hl:l.length<=4294967280) (h:nmW l=.error f) :
  f=0 /\ ∀ W:World,Rv W->Calls Tryz.prog 48 #[.string ⟨l.toArray⟩] W fun e w'=>e=.panicked (thC 0)/\Below W.heap.size W w':=by
 by_cases ho:∃ m,Lib.atoiAll l=.ok m
 ·obtain⟨m,e⟩:=ho
  unfold nmW at h
  rw[e] at h
  simp only at h
  by_cases q:Lib.itoa m=l/\(Lib.trimPrefix l [45]).length<=9
  ·rw[if_pos q] at h;cases h
  ·rw[if_neg q] at h
   have hf:(0:Int)=f:=by injection h
   refine⟨hf.symm,fun W R=>?_⟩
   have hm:=atoi_bd e
   have KA:=atoiOk l m W hl e
   have KI:=fun W hW=>itoaAny m W hm.1 hm.2 hW
   have KT:=fun W=>Tryz.strings_TrimPrefix ⟨l.toArray⟩ ⟨#[45]⟩ W
   simp only [] at KT
   by_cases q1:Lib.itoa m=l
   ·have q2:¬ (Lib.trimPrefix l [45]).length<=9:=fun x=>q ⟨q1,x⟩
    rw[q1] at KI
    have tl:(9:Int)<((Lib.trimPrefix l [45]).length:Int):=by omega
    clear e q h hf hm q1 q2
    generalize Lib.trimPrefix l [45]=t at *
    unfold thC
    rw[thr_0]
    go_enter Tryz.func48,Tryz.ntmps48
    go_wp2_with (first
     | (go_at_call 77;refine KA.mono ?_;clear KA;rintro e w1 ⟨rfl,hb1⟩)
     | (go_at_call 39;refine (KI _ (R.pw.step hb1)).mono ?_;clear KI;rintro e w2 ⟨rfl,hb2⟩)
     | (go_at_call 78;refine (KT _).mono ?_;clear KT;rintro e w3 ⟨rfl,hw3⟩;have:=hw3.symm;subst this))
    exact⟨rfl,rfl,below_via hb1 hb2⟩
   ·clear e q h hf hm
    generalize Lib.itoa m=z at *
    unfold thC
    rw[thr_0]
    go_enter Tryz.func48,Tryz.ntmps48
    go_wp2_with (first
     | (go_at_call 77;refine KA.mono ?_;clear KA;rintro e w1 ⟨rfl,hb1⟩)
     | (go_at_call 39;refine (KI _ (R.pw.step hb1)).mono ?_;clear KI;rintro e w2 ⟨rfl,hb2⟩)
     | (go_at_call 78;refine (KT _).mono ?_;clear KT;rintro e w3 ⟨rfl,hw3⟩;have:=hw3.symm;subst this))
    exact⟨rfl,rfl,below_via hb1 hb2⟩
 ·have hno:∀ n,Lib.atoiAll l ≠ .ok n:=fun n e=>ho ⟨n,e⟩
  have hf:(0:Int)=f:=by
   unfold nmW at h
   split at h
   ·rename_i m e;exact absurd e (hno m)
   ·injection h
  refine⟨hf.symm,fun W R=>?_⟩
  have KA:=atoiNo l W R hl hno
  clear ho hno h hf
  unfold thC
  rw[thr_0]
  go_enter Tryz.func48,Tryz.ntmps48
  go_wp2_with (go_at_call 77;refine KA.mono ?_;clear KA;rintro e w1 ⟨⟨n,te,pe,rfl⟩,hb1⟩)
  exact⟨rfl,rfl,hb1⟩
end Go.Proofs.YtcjdoeclblhaeaaGreatDoor.Rn
namespace Go.Proofs.YtcjdoeclblhaeaaGreatDoor.Rn
open Go.RowKit
theorem byF_cases {α : Type} (f:Int) (t : α):(f=0/\byF f t=.ok t) \/ (f≠0/\byF f t=.error f):=by
 unfold byF
 by_cases h:f=0
 ·exact .inl ⟨h,if_pos h⟩
 ·exact .inr ⟨h,if_neg h⟩
theorem prefix_ok (l:List UInt8) (p:Bur.Sp) (w:World) (R:Rv w) (hl:l.length<=4294967280) (h:pfW l=.ok p) :
  Calls Tryz.prog 80 #[.string ⟨l.toArray⟩] w fun e w'=>e=.returned (pfx p.1 p.2)/\Below w.heap.size w w':=by
 rcases byF_cases (Bur.rdpF l) (Bur.rdpA l,Bur.rdpL l) with ⟨e0,q⟩|⟨e0,q⟩
 ·have hp:(Bur.rdpA l,Bur.rdpL l)=p:=by
   unfold pfW at h
   rw[q] at h
   injection h
  subst hp
  have KP:=fun W hW=>parsePrefix l W (by omega) hW
  simp only [e0,ev_0] at KP
  have cP:=Pf.new w 0 0
  have R1:=R.step (below_al (below_self w) (pcs 0 0))
  have b1:=below_al (below_self w) (pcs 0 0)
  clear h q R e0
  simp only
  generalize Bur.rdpA l=x at *
  generalize Bur.rdpL l=y at *
  go_enter Tryz.func80,Tryz.ntmps80
  go_wp2_with (first
   | (go_at_call 114;refine (KP _ R1.mx).mono ?_;clear KP;rintro e w1 ⟨rfl,hb1⟩;have cQ:=cP.step hb1)
   | (go_at_call 113;refine (mustP_ok _ _ _).mono ?_;rintro e w2 ⟨rfl,hb2⟩;have ⟨c0,c1,z0,z1,_⟩:=cQ.step hb2))
  exact bodyPost_ret (v:=pfx x y) (by simp[results,Tryz.results80,go_sem,c0,c1]) rfl ⟨rfl,((below_via (below_via b1 hb1) hb2).setCell (by simp) _).setCell (by simp) _⟩
 ·unfold pfW at h
  rw[q] at h
  cases h
theorem prefix_no (l:List UInt8) (f:Int) (w:World) (R:Rv w) (hl:l.length<=4294967280) (h:pfW l=.error f) :
  f≠0/\Calls Tryz.prog 80 #[.string ⟨l.toArray⟩] w fun e w'=>e=.panicked (thC f)/\Below w.heap.size w w':=by
 rcases byF_cases (Bur.rdpF l) (Bur.rdpA l,Bur.rdpL l) with ⟨e0,q⟩|⟨e0,q⟩
 ·unfold pfW at h
  rw[q] at h
  cases h
 ·have hp:Bur.rdpF l=f:=by
   unfold pfW at h
   rw[q] at h
   injection h
  rw[hp] at e0
  have KP:=fun W hW=>parsePrefix l W (by omega) hW
  simp only [hp,ev_ne e0] at KP
  have R1:=R.step (below_al (below_self w) (pcs 0 0))
  have b1:=below_al (below_self w) (pcs 0 0)
  clear h q R hp
  refine⟨e0,?_⟩
  generalize Bur.rdpA l=x at *
  generalize Bur.rdpL l=y at *
  generalize hth:thC f=th
  go_enter Tryz.func80,Tryz.ntmps80
  go_wp2_with (first
   | (go_at_call 114;refine (KP _ R1.mx).mono ?_;clear KP;rintro e w1 ⟨rfl,hb1⟩)
   | (go_at_call 113;refine (mustP_no _ _ f e0 _).mono ?_;rw[hth];rintro e w2 ⟨rfl,hb2⟩))
  exact⟨rfl,rfl,below_via (below_via b1 hb1) hb2⟩
theorem address_ok (l:List UInt8) (n:Int) (w:World) (R:Rv w) (hl:l.length<=4294967280) (h:adW l=.ok n) :
  Calls Tryz.prog 81 #[.string ⟨l.toArray⟩] w fun e w'=>e=.returned (.int .i64 n)/\Below w.heap.size w w':=by
 rcases byF_cases (Bur.adrF l) (Bur.adr l) with ⟨e0,q⟩|⟨e0,q⟩
 ·have hp:Bur.adr l=n:=by
   unfold adW at h
   rw[q] at h
   injection h
  subst hp
  have KP:=parse l w (by omega) R.mx
  simp only [e0,ev_0] at KP
  clear h q R e0
  generalize Bur.adr l=x at *
  go_enter Tryz.func81,Tryz.ntmps81
  go_wp2_with (first
   | (go_at_call 115;refine KP.mono ?_;clear KP;rintro e w1 ⟨rfl,hb1⟩)
   | (go_at_call 45;refine (mustI_ok _ _).mono ?_;rintro e w2 ⟨rfl,hw2⟩;have:=hw2.symm;subst this))
  go_ret
  exact⟨rfl,hb1⟩
 ·unfold adW at h
  rw[q] at h
  cases h
theorem address_no (l:List UInt8) (f:Int) (w:World) (R:Rv w) (hl:l.length<=4294967280) (h:adW l=.error f) :
  f≠0/\Calls Tryz.prog 81 #[.string ⟨l.toArray⟩] w fun e w'=>e=.panicked (thC f)/\Below w.heap.size w w':=by
 rcases byF_cases (Bur.adrF l) (Bur.adr l) with ⟨e0,q⟩|⟨e0,q⟩
 ·unfold adW at h
  rw[q] at h
  cases h
 ·have hp:Bur.adrF l=f:=by
   unfold adW at h
   rw[q] at h
   injection h
  rw[hp] at e0
  have KP:=parse l w (by omega) R.mx
  simp only [hp,ev_ne e0] at KP
  clear h q R hp
  refine⟨e0,?_⟩
  generalize Bur.adr l=x at *
  generalize hth:thC f=th
  go_enter Tryz.func81,Tryz.ntmps81
  go_wp2_with (first
   | (go_at_call 115;refine KP.mono ?_;clear KP;rintro e w1 ⟨rfl,hb1⟩)
   | (go_at_call 45;refine (mustI_no _ f e0 _).mono ?_;rw[hth];rintro e w2 ⟨rfl,hw2⟩;have:=hw2.symm;subst this))
  exact⟨rfl,rfl,hb1⟩
end Go.Proofs.YtcjdoeclblhaeaaGreatDoor.Rn
namespace Go.Proofs.YtcjdoeclblhaeaaGreatDoor.Rn
open Go.RowKit Pa Vs
theorem eqGuard_row:Tryz.prog.eqGuardType Tryz.prog.depth 150=false:=by kernel_rfl
theorem eqRow (s t:ByteArray) (n m:Int) (w:World):(Op.equalIn 10000 150 (.agg #[.string s,.int .i64 n]) (.agg #[.string t,.int .i64 m])).run Tryz.prog w=.ok (decide (s=t)&&decide (n=m)) w:=by
 have u3:=Tryz.underlying3
 have a3:=Tryz.isAgg3
 have z3:=Tryz.sizeOf3
 have u9:=Tryz.underlying9
 have a9:=Tryz.isAgg9
 have z9:=Tryz.sizeOf9
 have hS:Tryz.prog.underlying 150=some (.struct (Tryz.prog.fieldsOf 150)):=by kernel_rfl
 have hp:Tryz.prog.stoodInHeld 150=false:=by kernel_rfl
 rw[show (10000:Nat)=9999+1 from rfl,run_equalIn_agg w 9999 150 _ _ hS hp]
 simp only [Program.fieldsOf,Tryz.underlying150]
 go_simp
 have hs:(s=t)↔(s.toList=t.toList):=⟨fun e=>by rw[e],fun e=>by
  rw[ByteArray.toList_eq,ByteArray.toList_eq] at e
  exact ByteArray.ext (Array.toList_inj.1 e)⟩
 by_cases h1:s=t <;> by_cases h2:n=m <;> simp[h1,h2,<- hs]
theorem rowRun {v t:List UInt8} {m k:Nat} {b:Bool} (h:decide (v=t/\m=k)=b) (w:World):(Op.equalIn 10000 150 (.agg #[.string ⟨v.toArray⟩,.int .i64 (m:Int)]) (.agg #[.string ⟨t.toArray⟩,.int .i64 (k:Int)])).run Tryz.prog w=.ok b w:=by
 rw[eqRow,<- h]
 congr 1
 by_cases h1:v=t
 ·by_cases h2:m=k
  ·simp[h1,h2]
  ·have h3:¬ ((m:Int)=(k:Int)):=by omega
   simp[h2,h3]
 ·have h3:¬ ((⟨v.toArray⟩:ByteArray)=⟨t.toArray⟩):=fun e=>by
   injection e with e
   exact h1 (by simpa using congrArg Array.toList e)
  simp[h1,h3]
structure Wd (w:World) (b o:Nat) (ws:List (List UInt8)):Prop where
 c:∀ (j:Nat) x,ws[j]? = some x->w.cell? ⟨b,o+j,none⟩=some (.string ⟨x.toArray⟩)
 lt:b<w.heap.size
 sm:∀ x∈ws,x.length<=4294967280
theorem Wd.step {w w':World} {b o:Nat} {ws:List (List UInt8)} (h:Wd w b o ws) (hb:Below w.heap.size w w'):Wd w' b o ws:=
 ⟨fun j x hx=>(hb.cell (p:=⟨b,o+j,none⟩) h.lt).trans (h.c j x hx),Nat.lt_of_lt_of_le h.lt hb.size,h.sm⟩
theorem Wd.at {w:World} {b o:Nat} {ws:List (List UInt8)} (h:Wd w b o ws) {j:Nat} (hj:j<ws.length):w.cell? ⟨b,o+j,none⟩=some (.string ⟨(wd ws j).toArray⟩):=by
 refine h.c j _ ?_
 unfold wd
 rw[List.getElem?_eq_getElem hj]
 rfl
theorem Wd.len {w:World} {b o:Nat} {ws:List (List UInt8)} (h:Wd w b o ws) (j:Nat):(wd ws j).length<=4294967280:=by
 unfold wd
 cases e:ws[j]? with
 | none=>exact Nat.zero_le _
 | some x=>exact h.sm x (List.mem_of_getElem? e)
end Go.Proofs.YtcjdoeclblhaeaaGreatDoor.Rn
namespace Go.Proofs.YtcjdoeclblhaeaaGreatDoor.Rn
open Go.RowKit Pa Vs
abbrev zCall:Obj:=.cells #[.int .i64 0,.string ⟨#[]⟩,.int .i64 0,.int .i64 0,.int .i64 0,.int .i64 0,.string ⟨#[]⟩] 107
structure Zc (w:World) (b:Nat):Prop where
 c0:w.cell? ⟨b,0,none⟩=some (.int .i64 0)
 c1:w.cell? ⟨b,1,none⟩=some (.string ⟨#[]⟩)
 c2:w.cell? ⟨b,2,none⟩=some (.int .i64 0)
 c3:w.cell? ⟨b,3,none⟩=some (.int .i64 0)
 c4:w.cell? ⟨b,4,none⟩=some (.int .i64 0)
 c5:w.cell? ⟨b,5,none⟩=some (.int .i64 0)
 c6:w.cell? ⟨b,6,none⟩=some (.string ⟨#[]⟩)
 z0:w.frozen? ⟨b,0,none⟩=false
 z1:w.frozen? ⟨b,1,none⟩=false
 z2:w.frozen? ⟨b,2,none⟩=false
 z3:w.frozen? ⟨b,3,none⟩=false
 z4:w.frozen? ⟨b,4,none⟩=false
 z5:w.frozen? ⟨b,5,none⟩=false
 z6:w.frozen? ⟨b,6,none⟩=false
theorem Zc.new (w:World):Zc (w.alloc zCall) w.heap.size:=⟨by simp,by simp,by simp,by simp,by simp,by simp,by simp,by simp,by simp,by simp,by simp,by simp,by simp,by simp⟩
theorem Zc.step {w w':World} {b:Nat} (h:Zc w b) (hb:Below w.heap.size w w'):Zc w' b:=by
 have hl:b<w.heap.size:=World.block_lt_of_cell? _ _ h.c0
 exact⟨(hb.cell (p:=⟨b,0,none⟩) hl).trans h.c0,(hb.cell (p:=⟨b,1,none⟩) hl).trans h.c1,(hb.cell (p:=⟨b,2,none⟩) hl).trans h.c2,(hb.cell (p:=⟨b,3,none⟩) hl).trans h.c3,(hb.cell (p:=⟨b,4,none⟩) hl).trans h.c4,(hb.cell (p:=⟨b,5,none⟩) hl).trans h.c5,(hb.cell (p:=⟨b,6,none⟩) hl).trans h.c6,
  (hb.frozen (p:=⟨b,0,none⟩) hl).trans h.z0,(hb.frozen (p:=⟨b,1,none⟩) hl).trans h.z1,(hb.frozen (p:=⟨b,2,none⟩) hl).trans h.z2,(hb.frozen (p:=⟨b,3,none⟩) hl).trans h.z3,(hb.frozen (p:=⟨b,4,none⟩) hl).trans h.z4,(hb.frozen (p:=⟨b,5,none⟩) hl).trans h.z5,(hb.frozen (p:=⟨b,6,none⟩) hl).trans h.z6⟩
structure Fx (w:World) (b n:Nat) (f:Nat->Value):Prop where
 c:∀ j,j<n->w.cell? ⟨b,j,none⟩=some (f j)
theorem Fx.set {w:World} {b n:Nat} {f:Nat->Value} (h:Fx w b n f) (k:Nat) (hk:k<n) (v:Value):Fx (w.setCell ⟨b,k,none⟩ v) b n (fun j=>if j=k then v else f j):=by
 refine⟨fun j hj=>?_⟩
 have hc:=h.c k hk
 by_cases e:j=k
 ·subst e
  rw[if_pos rfl]
  exact World.cell?_setCell_same _ _ _ hc
 ·rw[if_neg e,World.cell?_setCell_other _ _ _ _ (by intro h2;exact e (by injection h2 with _ h3 _;exact h3.symm))]
  exact h.c j hj
theorem zc_put {w:World} {b:Nat} (h:Zc w b) (v0 v1 v2 v3 v4 v5 v6:Value) :
  ∃ W,(((((((w.setCell ⟨b,0,none⟩ v0).setCell ⟨b,1,none⟩ v1).setCell ⟨b,2,none⟩ v2).setCell ⟨b,3,none⟩ v3).setCell ⟨b,4,none⟩ v4).setCell ⟨b,5,none⟩ v5).setCell ⟨b,6,none⟩ v6)=W ∧
   W.cell? ⟨b,0,none⟩=some v0/\W.cell? ⟨b,1,none⟩=some v1/\W.cell? ⟨b,2,none⟩=some v2/\W.cell? ⟨b,3,none⟩=some v3/\W.cell? ⟨b,4,none⟩=some v4/\W.cell? ⟨b,5,none⟩=some v5/\W.cell? ⟨b,6,none⟩=some v6 /\ ∀ n,n<=b->Below n w W:=by
 have f0:Fx w b 7 (fun j=>if j=1 then .string ⟨#[]⟩ else if j=6 then .string ⟨#[]⟩ else .int .i64 0):=⟨fun j hj=>by
  match j,hj with
  | 0,_=>exact h.c0
  | 1,_=>exact h.c1
  | 2,_=>exact h.c2
  | 3,_=>exact h.c3
  | 4,_=>exact h.c4
  | 5,_=>exact h.c5
  | 6,_=>exact h.c6⟩
 have f7:=((((((f0.set 0 (by decide) v0).set 1 (by decide) v1).set 2 (by decide) v2).set 3 (by decide) v3).set 4 (by decide) v4).set 5 (by decide) v5).set 6 (by decide) v6
 exact⟨_,rfl,f7.c 0 (by decide),f7.c 1 (by decide),f7.c 2 (by decide),f7.c 3 (by decide),f7.c 4 (by decide),f7.c 5 (by decide),f7.c 6 (by decide),fun n hn=>(((((((Below.refl n w).setCell hn _).setCell hn _).setCell hn _).setCell hn _).setCell hn _).setCell hn _).setCell hn _⟩
theorem Wd.two {w:World} {b j:Nat} {ws:List (List UInt8)} (h:Wd w b 2 ws) (hj:j<ws.length) (k:Nat) (hk:k=j+2):w.cell? ⟨b,k,none⟩=some (.string ⟨(wd ws j).toArray⟩):=by
 have:=h.at hj
 rw[Nat.add_comm 2 j,<- hk] at this
 exact this
end Go.Proofs.YtcjdoeclblhaeaaGreatDoor.Rn
namespace Go.Proofs.YtcjdoeclblhaeaaGreatDoor.Rn
open Go.RowKit Pa Vs
theorem call1 (v:List UInt8) (ws:List (List UInt8)) (w:World) (b cap:Nat) (h:Wd w b 2 ws) (hm:ws.length=2)
  (h1:v=[110,101,116]/\2=2) :
  Calls Tryz.prog 50 #[.string ⟨v.toArray⟩,.slice (some ⟨b,2,none⟩) 2 cap] w fun e w'=>e=.returned (clV ⟨1,txt (wd ws 0),(0,0),0,0,txt (wd ws 1)⟩)/\Below w.heap.size w w':=by
 have b0:=below_al (below_self w) zCall
 have hW:=h.step b0
 have k0:=hW.two (j:=0) (by omega) 2 rfl
 have k1:=hW.two (j:=1) (by omega) 3 rfl
 have zc:=Zc.new w
 have gq:=eqGuard_row
 have E1:∀ W,(Op.equalIn 10000 150 (.agg #[.string ⟨v.toArray⟩,.int .i64 2]) (.agg #[.string ⟨#[110,101,116]⟩,.int .i64 2])).run Tryz.prog W=.ok true W:=fun W=>rowRun (v:=v) (t:=[110,101,116]) (m:=2) (k:=2) (b:=true) (decide_eq_true h1) W
 have n1:¬ b=w.heap.size:=by have:=h.lt;omega
 have n2:¬ w.heap.size=b:=by have:=h.lt;omega
 clear h1 h hW hm
 generalize (wd ws 0)=x0 at *
 generalize (wd ws 1)=x1 at *
 have zc1:=zc
 obtain⟨c0,c1,c2,c3,c4,c5,c6,z0,z1,z2,z3,z4,z5,z6⟩:=id zc1
 go_enter Tryz.func50,Tryz.ntmps50
 go_wp2
 go_region
 all_goals (go_wp2;exact bodyPost_ret (v:=clV ⟨1,txt x0,(0,0),0,0,txt x1⟩) (by simp[results,Tryz.results50,go_sem,txt]) rfl ⟨rfl,by first|exact (below_al (below_self w) _).drew|exact below_al (below_self w).drew _|exact below_al (below_self w) _⟩)
theorem call8 (v:List UInt8) (ws:List (List UInt8)) (w:World) (b cap:Nat) (h:Wd w b 2 ws) (hm:ws.length=1)
  (h1:¬ (v=[110,101,116]/\1=2)) (h2:¬ (v=[97,100,100]/\1=3)) (h3:¬ (v=[116,97,107,101]/\1=2)) (h4:¬ (v=[112,108,97,99,101]/\1=3)) (h5:¬ (v=[108,101,97,118,101]/\1=2)) (h6:¬ (v=[110,101,120,116]/\1=4)) (h7:¬ (v=[104,111,115,116]/\1=3)) (h8:v=[108,105,115,116]/\1=1) :
  Calls Tryz.prog 50 #[.string ⟨v.toArray⟩,.slice (some ⟨b,2,none⟩) 1 cap] w fun e w'=>e=.returned (clV ⟨8,txt (wd ws 0),(0,0),0,0,txt []⟩)/\Below w.heap.size w w':=by
 have b0:=below_al (below_self w) zCall
 have hW:=h.step b0
 have k0:=hW.two (j:=0) (by omega) 2 rfl
 have zc:=Zc.new w
 have gq:=eqGuard_row
 have E1:∀ W,(Op.equalIn 10000 150 (.agg #[.string ⟨v.toArray⟩,.int .i64 1]) (.agg #[.string ⟨#[110,101,116]⟩,.int .i64 2])).run Tryz.prog W=.ok false W:=fun W=>rowRun (v:=v) (t:=[110,101,116]) (m:=1) (k:=2) (b:=false) (decide_eq_false h1) W
 have E2:∀ W,(Op.equalIn 10000 150 (.agg #[.string ⟨v.toArray⟩,.int .i64 1]) (.agg #[.string ⟨#[97,100,100]⟩,.int .i64 3])).run Tryz.prog W=.ok false W:=fun W=>rowRun (v:=v) (t:=[97,100,100]) (m:=1) (k:=3) (b:=false) (decide_eq_false h2) W
 have E3:∀ W,(Op.equalIn 10000 150 (.agg #[.string ⟨v.toArray⟩,.int .i64 1]) (.agg #[.string ⟨#[116,97,107,101]⟩,.int .i64 2])).run Tryz.prog W=.ok false W:=fun W=>rowRun (v:=v) (t:=[116,97,107,101]) (m:=1) (k:=2) (b:=false) (decide_eq_false h3) W
 have E4:∀ W,(Op.equalIn 10000 150 (.agg #[.string ⟨v.toArray⟩,.int .i64 1]) (.agg #[.string ⟨#[112,108,97,99,101]⟩,.int .i64 3])).run Tryz.prog W=.ok false W:=fun W=>rowRun (v:=v) (t:=[112,108,97,99,101]) (m:=1) (k:=3) (b:=false) (decide_eq_false h4) W
 have E5:∀ W,(Op.equalIn 10000 150 (.agg #[.string ⟨v.toArray⟩,.int .i64 1]) (.agg #[.string ⟨#[108,101,97,118,101]⟩,.int .i64 2])).run Tryz.prog W=.ok false W:=fun W=>rowRun (v:=v) (t:=[108,101,97,118,101]) (m:=1) (k:=2) (b:=false) (decide_eq_false h5) W
 have E6:∀ W,(Op.equalIn 10000 150 (.agg #[.string ⟨v.toArray⟩,.int .i64 1]) (.agg #[.string ⟨#[110,101,120,116]⟩,.int .i64 4])).run Tryz.prog W=.ok false W:=fun W=>rowRun (v:=v) (t:=[110,101,120,116]) (m:=1) (k:=4) (b:=false) (decide_eq_false h6) W
 have E7:∀ W,(Op.equalIn 10000 150 (.agg #[.string ⟨v.toArray⟩,.int .i64 1]) (.agg #[.string ⟨#[104,111,115,116]⟩,.int .i64 3])).run Tryz.prog W=.ok false W:=fun W=>rowRun (v:=v) (t:=[104,111,115,116]) (m:=1) (k:=3) (b:=false) (decide_eq_false h7) W
 have E8:∀ W,(Op.equalIn 10000 150 (.agg #[.string ⟨v.toArray⟩,.int .i64 1]) (.agg #[.string ⟨#[108,105,115,116]⟩,.int .i64 1])).run Tryz.prog W=.ok true W:=fun W=>rowRun (v:=v) (t:=[108,105,115,116]) (m:=1) (k:=1) (b:=true) (decide_eq_true h8) W
 clear h1 h2 h3 h4 h5 h6 h7 h8 h hW hm
 generalize (wd ws 0)=x0 at *
 have zc1:=zc
 obtain⟨c0,c1,c2,c3,c4,c5,c6,z0,z1,z2,z3,z4,z5,z6⟩:=id zc1
 go_enter Tryz.func50,Tryz.ntmps50
 go_wp2
 exact bodyPost_ret (v:=clV ⟨8,txt x0,(0,0),0,0,txt []⟩) (by simp[results,Tryz.results50,go_sem,txt]) rfl ⟨rfl,below_al (below_self w) _⟩
theorem call3 (v:List UInt8) (ws:List (List UInt8)) (w:World) (b cap:Nat) (R:Rv w) (h:Wd w b 2 ws) (hm:ws.length=2) (p:Bur.Sp) (hp:pfW (wd ws 1)=.ok p)
  (h1:¬ (v=[110,101,116]/\2=2)) (h2:¬ (v=[97,100,100]/\2=3)) (h3:v=[116,97,107,101]/\2=2) :
  Calls Tryz.prog 50 #[.string ⟨v.toArray⟩,.slice (some ⟨b,2,none⟩) 2 cap] w fun e w'=>e=.returned (clV ⟨3,txt (wd ws 0),p,0,0,txt []⟩)/\Below w.heap.size w w':=by
 have b0:=below_al (below_self w) zCall
 have hW:=h.step b0
 have k0:=hW.two (j:=0) (by omega) 2 rfl
 have k1:=hW.two (j:=1) (by omega) 3 rfl
 have KP:=fun W RW=>prefix_ok (wd ws 1) p W RW (h.len 1) hp
 clear hp
 obtain⟨p1,p2⟩:=p
 have R0:=R.step b0
 have zc:=Zc.new w
 have gq:=eqGuard_row
 have E1:∀ W,(Op.equalIn 10000 150 (.agg #[.string ⟨v.toArray⟩,.int .i64 2]) (.agg #[.string ⟨#[110,101,116]⟩,.int .i64 2])).run Tryz.prog W=.ok false W:=fun W=>rowRun (v:=v) (t:=[110,101,116]) (m:=2) (k:=2) (b:=false) (decide_eq_false h1) W
 have E2:∀ W,(Op.equalIn 10000 150 (.agg #[.string ⟨v.toArray⟩,.int .i64 2]) (.agg #[.string ⟨#[97,100,100]⟩,.int .i64 3])).run Tryz.prog W=.ok false W:=fun W=>rowRun (v:=v) (t:=[97,100,100]) (m:=2) (k:=3) (b:=false) (decide_eq_false h2) W
 have E3:∀ W,(Op.equalIn 10000 150 (.agg #[.string ⟨v.toArray⟩,.int .i64 2]) (.agg #[.string ⟨#[116,97,107,101]⟩,.int .i64 2])).run Tryz.prog W=.ok true W:=fun W=>rowRun (v:=v) (t:=[116,97,107,101]) (m:=2) (k:=2) (b:=true) (decide_eq_true h3) W
 have n1:¬ b=w.heap.size:=by have:=h.lt;omega
 have n2:¬ w.heap.size=b:=by have:=h.lt;omega
 clear h1 h2 h3 h hW hm R
 generalize (wd ws 0)=x0 at *
 generalize (wd ws 1)=x1 at *
 go_enter Tryz.func50,Tryz.ntmps50
 go_wp2
 go_region_held3 (fun w2=>w2.cell? ⟨b,2,none⟩=some (.string ⟨x0.toArray⟩)/\w2.cell? ⟨b,3,none⟩=some (.string ⟨x1.toArray⟩)) (go_simp)
  (first|(go_at_call 80;refine (KP _ (by first|exact R0|exact R0.step (below_self _).drew)).mono ?_;rintro e w1 ⟨rfl,hb1⟩;have k0':=cell_lat hb1 k0;have k1':=cell_lat hb1 k1;have zc1:=zc.step (w':=w1) (by first|exact hb1|exact below_via (below_self _).drew hb1);obtain⟨c0,c1,c2,c3,c4,c5,c6,z0,z1,z2,z3,z4,z5,z6⟩:=id zc1))
 go_wp2
 obtain⟨W,hW,q0,q1,q2,q3,q4,q5,q6,hB⟩:=zc_put zc1 (.int .i64 3) (.string ⟨x0.toArray⟩) (.int .i64 p1) (.int .i64 p2) (.int .i64 0) (.int .i64 0) (.string ⟨#[]⟩)
 rw[hW]
 exact bodyPost_ret (v:=clV ⟨3,txt x0,(p1,p2),0,0,txt []⟩) (by simp[results,Tryz.results50,go_sem,txt,q0,q1,q2,q3,q4,q5,q6]) rfl ⟨rfl,(below_via b0.drew hb1).trans (hB _ (Nat.le_refl _))⟩
theorem call3e (v:List UInt8) (ws:List (List UInt8)) (w:World) (b cap:Nat) (R:Rv w) (h:Wd w b 2 ws) (hm:ws.length=2) (f:Int) (hp:pfW (wd ws 1)=.error f)
  (h1:¬ (v=[110,101,116]/\2=2)) (h2:¬ (v=[97,100,100]/\2=3)) (h3:v=[116,97,107,101]/\2=2) :
  Calls Tryz.prog 50 #[.string ⟨v.toArray⟩,.slice (some ⟨b,2,none⟩) 2 cap] w fun e w'=>e=.panicked (thC f)/\Below w.heap.size w w':=by
 have b0:=below_al (below_self w) zCall
 have hW:=h.step b0
 have k0:=hW.two (j:=0) (by omega) 2 rfl
 have k1:=hW.two (j:=1) (by omega) 3 rfl
 have KP:=fun W RW=>(prefix_no (wd ws 1) f W RW (h.len 1) hp).2
 clear hp
 have R0:=R.step b0
 have zc:=Zc.new w
 have gq:=eqGuard_row
 have E1:∀ W,(Op.equalIn 10000 150 (.agg #[.string ⟨v.toArray⟩,.int .i64 2]) (.agg #[.string ⟨#[110,101,116]⟩,.int .i64 2])).run Tryz.prog W=.ok false W:=fun W=>rowRun (v:=v) (t:=[110,101,116]) (m:=2) (k:=2) (b:=false) (decide_eq_false h1) W
 have E2:∀ W,(Op.equalIn 10000 150 (.agg #[.string ⟨v.toArray⟩,.int .i64 2]) (.agg #[.string ⟨#[97,100,100]⟩,.int .i64 3])).run Tryz.prog W=.ok false W:=fun W=>rowRun (v:=v) (t:=[97,100,100]) (m:=2) (k:=3) (b:=false) (decide_eq_false h2) W
 have E3:∀ W,(Op.equalIn 10000 150 (.agg #[.string ⟨v.toArray⟩,.int .i64 2]) (.agg #[.string ⟨#[116,97,107,101]⟩,.int .i64 2])).run Tryz.prog W=.ok true W:=fun W=>rowRun (v:=v) (t:=[116,97,107,101]) (m:=2) (k:=2) (b:=true) (decide_eq_true h3) W
 have n1:¬ b=w.heap.size:=by have:=h.lt;omega
 have n2:¬ w.heap.size=b:=by have:=h.lt;omega
 clear h1 h2 h3 h hW hm R
 generalize (wd ws 0)=x0 at *
 generalize (wd ws 1)=x1 at *
 generalize hth:thC f=th at *
 go_enter Tryz.func50,Tryz.ntmps50
 go_wp2
 refine wp_region_held_drew (S:=(fun w2=>w2.cell? ⟨b,2,none⟩=some (.string ⟨x0.toArray⟩)/\w2.cell? ⟨b,3,none⟩=some (.string ⟨x1.toArray⟩))) (by kernel_rfl) (by exact⟨k0,k1⟩) (fun hHeld0=>?_)
 refine wpAnyH_take (i:=0) (oi:=⟨_,_,_,_,_,_⟩) (v:=?_) rfl (by kernel_rfl) (by kernel_rfl) (by kernel_rfl) (fun _ _ _ h=>h) (Or.inl ⟨by rfl,?_⟩) (by assumption) ?_
 rotate_left
 ·(intro w hSw;(try dsimp only at hSw);go_simp;try with_reducible rfl)
 try simp only [Act.put,List.setIfInBounds_toArray,List.set_cons_zero,List.set_cons_succ]
 refine wpAnyH_take (i:=1) (oi:=⟨_,_,_,_,_,_⟩) (v:=?_) rfl (by kernel_rfl) (by kernel_rfl) (by kernel_rfl) (fun _ _ _ h=>h) (Or.inl ⟨by rfl,?_⟩) (by assumption) ?_
 rotate_left
 ·(intro w hSw;(try dsimp only at hSw);go_simp;try with_reducible rfl)
 try simp only [Act.put,List.setIfInBounds_toArray,List.set_cons_zero,List.set_cons_succ]
 refine wpAnyH_take (i:=2) (oi:=⟨_,_,_,_,_,_⟩) (v:=?_) rfl (by kernel_rfl) (by kernel_rfl) (by kernel_rfl) (fun _ _ _ h=>h) (Or.inl ⟨by rfl,?_⟩) (by assumption) ?_
 rotate_left
 ·(intro w hSw;(try dsimp only at hSw);go_simp;try with_reducible rfl)
 try simp only [Act.put,List.setIfInBounds_toArray,List.set_cons_zero,List.set_cons_succ]
 refine wpAnyH_take (i:=3) (oi:=⟨_,_,_,_,_,_⟩) (v:=?_) rfl (by kernel_rfl) (by kernel_rfl) (by kernel_rfl) (fun _ _ _ h=>h) (Or.inl ⟨by rfl,?_⟩) (by assumption) ?_
 rotate_left
 ·(intro w hSw;(try dsimp only at hSw);go_simp;try with_reducible rfl)
 try simp only [Act.put,List.setIfInBounds_toArray,List.set_cons_zero,List.set_cons_succ]
 refine wpAnyH_take (i:=4) (oi:=⟨_,_,_,_,_,_⟩) (v:=?_) rfl (by kernel_rfl) (by kernel_rfl) (by kernel_rfl) (fun _ _ _ h=>h) (Or.inl ⟨by rfl,?_⟩) (by assumption) ?_
 rotate_left
 ·(intro w hSw;(try dsimp only at hSw);go_simp;try with_reducible rfl)
 try simp only [Act.put,List.setIfInBounds_toArray,List.set_cons_zero,List.set_cons_succ]
 refine wpAnyH_take (i:=5) (oi:=⟨_,_,_,_,_,_⟩) (v:=?_) rfl (by kernel_rfl) (by kernel_rfl) (by kernel_rfl) (fun _ _ _ h=>h) (Or.inl ⟨by rfl,?_⟩) (by assumption) ?_
 rotate_left
 ·(intro w hSw;(try dsimp only at hSw);go_simp;try with_reducible rfl)
 try simp only [Act.put,List.setIfInBounds_toArray,List.set_cons_zero,List.set_cons_succ]
 refine wpAnyH_ready (rs:=[6]) (by kernel_rfl) (by simp) ?_
 refine AllReadyH.cons (o:=⟨_,_,_,_,_,_⟩) rfl (fun K hK=>?_) AllReadyH.nil
 go_simp
 go_at_call 80
 refine (KP _ (by first|exact R0|exact R0.step (below_self _).drew)).mono ?_
 rintro e w1 ⟨rfl,hb1⟩
 exact⟨rfl,rfl,below_via b0.drew hb1⟩
end Go.Proofs.YtcjdoeclblhaeaaGreatDoor.Rn
namespace Go.Proofs.YtcjdoeclblhaeaaGreatDoor.Rn
open Go.RowKit Pa Vs
theorem call2 (v:List UInt8) (ws:List (List UInt8)) (w:World) (b cap:Nat) (R:Rv w) (h:Wd w b 2 ws) (hm:ws.length=3) (p:Bur.Sp) (hp:pfW (wd ws 1)=.ok p)
  (h1:¬ (v=[110,101,116]/\3=2)) (h2:v=[97,100,100]/\3=3) :
  Calls Tryz.prog 50 #[.string ⟨v.toArray⟩,.slice (some ⟨b,2,none⟩) 3 cap] w fun e w'=>e=.returned (clV ⟨2,txt (wd ws 0),p,0,0,txt (wd ws 2)⟩)/\Below w.heap.size w w':=by
 have b0:=below_al (below_self w) zCall
 have hW:=h.step b0
 have k0:=hW.two (j:=0) (by omega) 2 rfl
 have k1:=hW.two (j:=1) (by omega) 3 rfl
 have k2:=hW.two (j:=2) (by omega) 4 rfl
 have KP:=fun W RW=>prefix_ok (wd ws 1) p W RW (h.len 1) hp
 clear hp
 obtain⟨p1,p2⟩:=p
 have R0:=R.step b0
 have zc:=Zc.new w
 have gq:=eqGuard_row
 have E1:∀ W,(Op.equalIn 10000 150 (.agg #[.string ⟨v.toArray⟩,.int .i64 3]) (.agg #[.string ⟨#[110,101,116]⟩,.int .i64 2])).run Tryz.prog W=.ok false W:=fun W=>rowRun (v:=v) (t:=[110,101,116]) (m:=3) (k:=2) (b:=false) (decide_eq_false h1) W
 have E2:∀ W,(Op.equalIn 10000 150 (.agg #[.string ⟨v.toArray⟩,.int .i64 3]) (.agg #[.string ⟨#[97,100,100]⟩,.int .i64 3])).run Tryz.prog W=.ok true W:=fun W=>rowRun (v:=v) (t:=[97,100,100]) (m:=3) (k:=3) (b:=true) (decide_eq_true h2) W
 have n1:¬ b=w.heap.size:=by have:=h.lt;omega
 have n2:¬ w.heap.size=b:=by have:=h.lt;omega
 clear h1 h2 h hW hm R
 generalize (wd ws 0)=x0 at *
 generalize (wd ws 1)=x1 at *
 generalize (wd ws 2)=x2 at *
 go_enter Tryz.func50,Tryz.ntmps50
 go_wp2
 go_region_held3 (fun w2=>w2.cell? ⟨b,2,none⟩=some (.string ⟨x0.toArray⟩)/\w2.cell? ⟨b,3,none⟩=some (.string ⟨x1.toArray⟩)/\w2.cell? ⟨b,4,none⟩=some (.string ⟨x2.toArray⟩)) (go_simp)
  (first|(go_at_call 80;refine (KP _ (by first|exact R0|exact R0.step (below_self _).drew)).mono ?_;rintro e w1 ⟨rfl,hb1⟩;have k0':=cell_lat hb1 k0;have k1':=cell_lat hb1 k1;have k2':=cell_lat hb1 k2;have zc1:=zc.step (w':=w1) (by first|exact hb1|exact below_via (below_self _).drew hb1);obtain⟨c0,c1,c2,c3,c4,c5,c6,z0,z1,z2,z3,z4,z5,z6⟩:=id zc1))
 go_wp2
 obtain⟨W,hW,q0,q1,q2,q3,q4,q5,q6,hB⟩:=zc_put zc1 (.int .i64 2) (.string ⟨x0.toArray⟩) (.int .i64 p1) (.int .i64 p2) (.int .i64 0) (.int .i64 0) (.string ⟨x2.toArray⟩)
 rw[hW]
 exact bodyPost_ret (v:=clV ⟨2,txt x0,(p1,p2),0,0,txt x2⟩) (by simp[results,Tryz.results50,go_sem,txt,q0,q1,q2,q3,q4,q5,q6]) rfl ⟨rfl,(below_via b0.drew hb1).trans (hB _ (Nat.le_refl _))⟩
theorem call2e (v:List UInt8) (ws:List (List UInt8)) (w:World) (b cap:Nat) (R:Rv w) (h:Wd w b 2 ws) (hm:ws.length=3) (f:Int) (hp:pfW (wd ws 1)=.error f)
  (h1:¬ (v=[110,101,116]/\3=2)) (h2:v=[97,100,100]/\3=3) :
  Calls Tryz.prog 50 #[.string ⟨v.toArray⟩,.slice (some ⟨b,2,none⟩) 3 cap] w fun e w'=>e=.panicked (thC f)/\Below w.heap.size w w':=by
 have b0:=below_al (below_self w) zCall
 have hW:=h.step b0
 have k0:=hW.two (j:=0) (by omega) 2 rfl
 have k1:=hW.two (j:=1) (by omega) 3 rfl
 have k2:=hW.two (j:=2) (by omega) 4 rfl
 have KP:=fun W RW=>(prefix_no (wd ws 1) f W RW (h.len 1) hp).2
 clear hp
 have R0:=R.step b0
 have zc:=Zc.new w
 have gq:=eqGuard_row
 have E1:∀ W,(Op.equalIn 10000 150 (.agg #[.string ⟨v.toArray⟩,.int .i64 3]) (.agg #[.string ⟨#[110,101,116]⟩,.int .i64 2])).run Tryz.prog W=.ok false W:=fun W=>rowRun (v:=v) (t:=[110,101,116]) (m:=3) (k:=2) (b:=false) (decide_eq_false h1) W
 have E2:∀ W,(Op.equalIn 10000 150 (.agg #[.string ⟨v.toArray⟩,.int .i64 3]) (.agg #[.string ⟨#[97,100,100]⟩,.int .i64 3])).run Tryz.prog W=.ok true W:=fun W=>rowRun (v:=v) (t:=[97,100,100]) (m:=3) (k:=3) (b:=true) (decide_eq_true h2) W
 have n1:¬ b=w.heap.size:=by have:=h.lt;omega
 have n2:¬ w.heap.size=b:=by have:=h.lt;omega
 clear h1 h2 h hW hm R
 generalize (wd ws 0)=x0 at *
 generalize (wd ws 1)=x1 at *
 generalize (wd ws 2)=x2 at *
 generalize hth:thC f=th at *
 go_enter Tryz.func50,Tryz.ntmps50
 go_wp2
 refine wp_region_held_drew (S:=(fun w2=>w2.cell? ⟨b,2,none⟩=some (.string ⟨x0.toArray⟩)/\w2.cell? ⟨b,3,none⟩=some (.string ⟨x1.toArray⟩)/\w2.cell? ⟨b,4,none⟩=some (.string ⟨x2.toArray⟩))) (by kernel_rfl) (by exact⟨k0,k1,k2⟩) (fun hHeld0=>?_)
 refine wpAnyH_take (i:=0) (oi:=⟨_,_,_,_,_,_⟩) (v:=?_) rfl (by kernel_rfl) (by kernel_rfl) (by kernel_rfl) (fun _ _ _ h=>h) (Or.inl ⟨by rfl,?_⟩) (by assumption) ?_
 rotate_left
 ·(intro w hSw;(try dsimp only at hSw);go_simp;try with_reducible rfl)
 try simp only [Act.put,List.setIfInBounds_toArray,List.set_cons_zero,List.set_cons_succ]
 refine wpAnyH_take (i:=1) (oi:=⟨_,_,_,_,_,_⟩) (v:=?_) rfl (by kernel_rfl) (by kernel_rfl) (by kernel_rfl) (fun _ _ _ h=>h) (Or.inl ⟨by rfl,?_⟩) (by assumption) ?_
 rotate_left
 ·(intro w hSw;(try dsimp only at hSw);go_simp;try with_reducible rfl)
 try simp only [Act.put,List.setIfInBounds_toArray,List.set_cons_zero,List.set_cons_succ]
 refine wpAnyH_take (i:=2) (oi:=⟨_,_,_,_,_,_⟩) (v:=?_) rfl (by kernel_rfl) (by kernel_rfl) (by kernel_rfl) (fun _ _ _ h=>h) (Or.inl ⟨by rfl,?_⟩) (by assumption) ?_
 rotate_left
 ·(intro w hSw;(try dsimp only at hSw);go_simp;try with_reducible rfl)
 try simp only [Act.put,List.setIfInBounds_toArray,List.set_cons_zero,List.set_cons_succ]
 refine wpAnyH_take (i:=3) (oi:=⟨_,_,_,_,_,_⟩) (v:=?_) rfl (by kernel_rfl) (by kernel_rfl) (by kernel_rfl) (fun _ _ _ h=>h) (Or.inl ⟨by rfl,?_⟩) (by assumption) ?_
 rotate_left
 ·(intro w hSw;(try dsimp only at hSw);go_simp;try with_reducible rfl)
 try simp only [Act.put,List.setIfInBounds_toArray,List.set_cons_zero,List.set_cons_succ]
 refine wpAnyH_take (i:=4) (oi:=⟨_,_,_,_,_,_⟩) (v:=?_) rfl (by kernel_rfl) (by kernel_rfl) (by kernel_rfl) (fun _ _ _ h=>h) (Or.inl ⟨by rfl,?_⟩) (by assumption) ?_
 rotate_left
 ·(intro w hSw;(try dsimp only at hSw);go_simp;try with_reducible rfl)
 try simp only [Act.put,List.setIfInBounds_toArray,List.set_cons_zero,List.set_cons_succ]
 refine wpAnyH_take (i:=5) (oi:=⟨_,_,_,_,_,_⟩) (v:=?_) rfl (by kernel_rfl) (by kernel_rfl) (by kernel_rfl) (fun _ _ _ h=>h) (Or.inl ⟨by rfl,?_⟩) (by assumption) ?_
 rotate_left
 ·(intro w hSw;(try dsimp only at hSw);go_simp;try with_reducible rfl)
 try simp only [Act.put,List.setIfInBounds_toArray,List.set_cons_zero,List.set_cons_succ]
 refine wpAnyH_take (i:=7) (oi:=⟨_,_,_,_,_,_⟩) (v:=?_) rfl (by kernel_rfl) (by kernel_rfl) (by kernel_rfl) (fun _ _ _ h=>h) (Or.inl ⟨by rfl,?_⟩) (by assumption) ?_
 rotate_left
 ·(intro w hSw;(try dsimp only at hSw);go_simp;try with_reducible rfl)
 try simp only [Act.put,List.setIfInBounds_toArray,List.set_cons_zero,List.set_cons_succ]
 refine wpAnyH_take (i:=8) (oi:=⟨_,_,_,_,_,_⟩) (v:=?_) rfl (by kernel_rfl) (by kernel_rfl) (by kernel_rfl) (fun _ _ _ h=>h) (Or.inl ⟨by rfl,?_⟩) (by assumption) ?_
 rotate_left
 ·(intro w hSw;(try dsimp only at hSw);go_simp;try with_reducible rfl)
 try simp only [Act.put,List.setIfInBounds_toArray,List.set_cons_zero,List.set_cons_succ]
 refine wpAnyH_take (i:=9) (oi:=⟨_,_,_,_,_,_⟩) (v:=?_) rfl (by kernel_rfl) (by kernel_rfl) (by kernel_rfl) (fun _ _ _ h=>h) (Or.inl ⟨by rfl,?_⟩) (by assumption) ?_
 rotate_left
 ·(intro w hSw;(try dsimp only at hSw);go_simp;try with_reducible rfl)
 try simp only [Act.put,List.setIfInBounds_toArray,List.set_cons_zero,List.set_cons_succ]
 refine wpAnyH_ready (rs:=[6]) (by kernel_rfl) (by simp) ?_
 refine AllReadyH.cons (o:=⟨_,_,_,_,_,_⟩) rfl (fun K hK=>?_) AllReadyH.nil
 go_simp
 go_at_call 80
 refine (KP _ (by first|exact R0|exact R0.step (below_self _).drew)).mono ?_
 rintro e w1 ⟨rfl,hb1⟩
 exact⟨rfl,rfl,below_via b0.drew hb1⟩
end Go.Proofs.YtcjdoeclblhaeaaGreatDoor.Rn
namespace Go.Proofs.YtcjdoeclblhaeaaGreatDoor.Rn
open Go.RowKit Pa Vs
theorem call5 (v:List UInt8) (ws:List (List UInt8)) (w:World) (b cap:Nat) (R:Rv w) (h:Wd w b 2 ws) (hm:ws.length=2) (n:Int) (hp:adW (wd ws 1)=.ok n)
  (h1:¬ (v=[110,101,116]/\2=2)) (h2:¬ (v=[97,100,100]/\2=3)) (h3:¬ (v=[116,97,107,101]/\2=2)) (h4:¬ (v=[112,108,97,99,101]/\2=3)) (h5:v=[108,101,97,118,101]/\2=2) :
  Calls Tryz.prog 50 #[.string ⟨v.toArray⟩,.slice (some ⟨b,2,none⟩) 2 cap] w fun e w'=>e=.returned (clV ⟨5,txt (wd ws 0),(0,0),0,n,txt []⟩)/\Below w.heap.size w w':=by
 have b0:=below_al (below_self w) zCall
 have hW:=h.step b0
 have k0:=hW.two (j:=0) (by omega) 2 rfl
 have k1:=hW.two (j:=1) (by omega) 3 rfl
 have KP:=fun W RW=>address_ok (wd ws 1) n W RW (h.len 1) hp
 clear hp
 have R0:=R.step b0
 have zc:=Zc.new w
 have gq:=eqGuard_row
 have E1:∀ W,(Op.equalIn 10000 150 (.agg #[.string ⟨v.toArray⟩,.int .i64 2]) (.agg #[.string ⟨#[110,101,116]⟩,.int .i64 2])).run Tryz.prog W=.ok false W:=fun W=>rowRun (v:=v) (t:=[110,101,116]) (m:=2) (k:=2) (b:=false) (decide_eq_false h1) W
 have E2:∀ W,(Op.equalIn 10000 150 (.agg #[.string ⟨v.toArray⟩,.int .i64 2]) (.agg #[.string ⟨#[97,100,100]⟩,.int .i64 3])).run Tryz.prog W=.ok false W:=fun W=>rowRun (v:=v) (t:=[97,100,100]) (m:=2) (k:=3) (b:=false) (decide_eq_false h2) W
 have E3:∀ W,(Op.equalIn 10000 150 (.agg #[.string ⟨v.toArray⟩,.int .i64 2]) (.agg #[.string ⟨#[116,97,107,101]⟩,.int .i64 2])).run Tryz.prog W=.ok false W:=fun W=>rowRun (v:=v) (t:=[116,97,107,101]) (m:=2) (k:=2) (b:=false) (decide_eq_false h3) W
 have E4:∀ W,(Op.equalIn 10000 150 (.agg #[.string ⟨v.toArray⟩,.int .i64 2]) (.agg #[.string ⟨#[112,108,97,99,101]⟩,.int .i64 3])).run Tryz.prog W=.ok false W:=fun W=>rowRun (v:=v) (t:=[112,108,97,99,101]) (m:=2) (k:=3) (b:=false) (decide_eq_false h4) W
 have E5:∀ W,(Op.equalIn 10000 150 (.agg #[.string ⟨v.toArray⟩,.int .i64 2]) (.agg #[.string ⟨#[108,101,97,118,101]⟩,.int .i64 2])).run Tryz.prog W=.ok true W:=fun W=>rowRun (v:=v) (t:=[108,101,97,118,101]) (m:=2) (k:=2) (b:=true) (decide_eq_true h5) W
 have n1:¬ b=w.heap.size:=by have:=h.lt;omega
 have n2:¬ w.heap.size=b:=by have:=h.lt;omega
 clear h1 h2 h3 h4 h5 h hW hm R
 generalize (wd ws 0)=x0 at *
 generalize (wd ws 1)=x1 at *
 go_enter Tryz.func50,Tryz.ntmps50
 go_wp2
 go_region_held3 (fun w2=>w2.cell? ⟨b,2,none⟩=some (.string ⟨x0.toArray⟩)/\w2.cell? ⟨b,3,none⟩=some (.string ⟨x1.toArray⟩)) (go_simp)
  (first|(go_at_call 81;refine (KP _ (by first|exact R0|exact R0.step (below_self _).drew)).mono ?_;rintro e w1 ⟨rfl,hb1⟩;have k0':=cell_lat hb1 k0;have k1':=cell_lat hb1 k1;have zc1:=zc.step (w':=w1) (by first|exact hb1|exact below_via (below_self _).drew hb1);obtain⟨c0,c1,c2,c3,c4,c5,c6,z0,z1,z2,z3,z4,z5,z6⟩:=id zc1))
 go_wp2
 obtain⟨W,hW,q0,q1,q2,q3,q4,q5,q6,hB⟩:=zc_put zc1 (.int .i64 5) (.string ⟨x0.toArray⟩) (.int .i64 0) (.int .i64 0) (.int .i64 0) (.int .i64 n) (.string ⟨#[]⟩)
 rw[hW]
 exact bodyPost_ret (v:=clV ⟨5,txt x0,(0,0),0,n,txt []⟩) (by simp[results,Tryz.results50,go_sem,txt,q0,q1,q2,q3,q4,q5,q6]) rfl ⟨rfl,(below_via b0.drew hb1).trans (hB _ (Nat.le_refl _))⟩
theorem call5e (v:List UInt8) (ws:List (List UInt8)) (w:World) (b cap:Nat) (R:Rv w) (h:Wd w b 2 ws) (hm:ws.length=2) (f:Int) (hp:adW (wd ws 1)=.error f)
  (h1:¬ (v=[110,101,116]/\2=2)) (h2:¬ (v=[97,100,100]/\2=3)) (h3:¬ (v=[116,97,107,101]/\2=2)) (h4:¬ (v=[112,108,97,99,101]/\2=3)) (h5:v=[108,101,97,118,101]/\2=2) :
  Calls Tryz.prog 50 #[.string ⟨v.toArray⟩,.slice (some ⟨b,2,none⟩) 2 cap] w fun e w'=>e=.panicked (thC f)/\Below w.heap.size w w':=by
 have b0:=below_al (below_self w) zCall
 have hW:=h.step b0
 have k0:=hW.two (j:=0) (by omega) 2 rfl
 have k1:=hW.two (j:=1) (by omega) 3 rfl
 have KP:=fun W RW=>(address_no (wd ws 1) f W RW (h.len 1) hp).2
 clear hp
 have R0:=R.step b0
 have zc:=Zc.new w
 have gq:=eqGuard_row
 have E1:∀ W,(Op.equalIn 10000 150 (.agg #[.string ⟨v.toArray⟩,.int .i64 2]) (.agg #[.string ⟨#[110,101,116]⟩,.int .i64 2])).run Tryz.prog W=.ok false W:=fun W=>rowRun (v:=v) (t:=[110,101,116]) (m:=2) (k:=2) (b:=false) (decide_eq_false h1) W
 have E2:∀ W,(Op.equalIn 10000 150 (.agg #[.string ⟨v.toArray⟩,.int .i64 2]) (.agg #[.string ⟨#[97,100,100]⟩,.int .i64 3])).run Tryz.prog W=.ok false W:=fun W=>rowRun (v:=v) (t:=[97,100,100]) (m:=2) (k:=3) (b:=false) (decide_eq_false h2) W
 have E3:∀ W,(Op.equalIn 10000 150 (.agg #[.string ⟨v.toArray⟩,.int .i64 2]) (.agg #[.string ⟨#[116,97,107,101]⟩,.int .i64 2])).run Tryz.prog W=.ok false W:=fun W=>rowRun (v:=v) (t:=[116,97,107,101]) (m:=2) (k:=2) (b:=false) (decide_eq_false h3) W
 have E4:∀ W,(Op.equalIn 10000 150 (.agg #[.string ⟨v.toArray⟩,.int .i64 2]) (.agg #[.string ⟨#[112,108,97,99,101]⟩,.int .i64 3])).run Tryz.prog W=.ok false W:=fun W=>rowRun (v:=v) (t:=[112,108,97,99,101]) (m:=2) (k:=3) (b:=false) (decide_eq_false h4) W
 have E5:∀ W,(Op.equalIn 10000 150 (.agg #[.string ⟨v.toArray⟩,.int .i64 2]) (.agg #[.string ⟨#[108,101,97,118,101]⟩,.int .i64 2])).run Tryz.prog W=.ok true W:=fun W=>rowRun (v:=v) (t:=[108,101,97,118,101]) (m:=2) (k:=2) (b:=true) (decide_eq_true h5) W
 have n1:¬ b=w.heap.size:=by have:=h.lt;omega
 have n2:¬ w.heap.size=b:=by have:=h.lt;omega
 clear h1 h2 h3 h4 h5 h hW hm R
 generalize (wd ws 0)=x0 at *
 generalize (wd ws 1)=x1 at *
 generalize hth:thC f=th at *
 go_enter Tryz.func50,Tryz.ntmps50
 go_wp2
 refine wp_region_held_drew (S:=(fun w2=>w2.cell? ⟨b,2,none⟩=some (.string ⟨x0.toArray⟩)/\w2.cell? ⟨b,3,none⟩=some (.string ⟨x1.toArray⟩))) (by kernel_rfl) (by exact⟨k0,k1⟩) (fun hHeld0=>?_)
 refine wpAnyH_take (i:=0) (oi:=⟨_,_,_,_,_,_⟩) (v:=?_) rfl (by kernel_rfl) (by kernel_rfl) (by kernel_rfl) (fun _ _ _ h=>h) (Or.inl ⟨by rfl,?_⟩) (by assumption) ?_
 rotate_left
 ·(intro w hSw;(try dsimp only at hSw);go_simp;try with_reducible rfl)
 try simp only [Act.put,List.setIfInBounds_toArray,List.set_cons_zero,List.set_cons_succ]
 refine wpAnyH_take (i:=1) (oi:=⟨_,_,_,_,_,_⟩) (v:=?_) rfl (by kernel_rfl) (by kernel_rfl) (by kernel_rfl) (fun _ _ _ h=>h) (Or.inl ⟨by rfl,?_⟩) (by assumption) ?_
 rotate_left
 ·(intro w hSw;(try dsimp only at hSw);go_simp;try with_reducible rfl)
 try simp only [Act.put,List.setIfInBounds_toArray,List.set_cons_zero,List.set_cons_succ]
 refine wpAnyH_take (i:=2) (oi:=⟨_,_,_,_,_,_⟩) (v:=?_) rfl (by kernel_rfl) (by kernel_rfl) (by kernel_rfl) (fun _ _ _ h=>h) (Or.inl ⟨by rfl,?_⟩) (by assumption) ?_
 rotate_left
 ·(intro w hSw;(try dsimp only at hSw);go_simp;try with_reducible rfl)
 try simp only [Act.put,List.setIfInBounds_toArray,List.set_cons_zero,List.set_cons_succ]
 refine wpAnyH_take (i:=3) (oi:=⟨_,_,_,_,_,_⟩) (v:=?_) rfl (by kernel_rfl) (by kernel_rfl) (by kernel_rfl) (fun _ _ _ h=>h) (Or.inl ⟨by rfl,?_⟩) (by assumption) ?_
 rotate_left
 ·(intro w hSw;(try dsimp only at hSw);go_simp;try with_reducible rfl)
 try simp only [Act.put,List.setIfInBounds_toArray,List.set_cons_zero,List.set_cons_succ]
 refine wpAnyH_take (i:=4) (oi:=⟨_,_,_,_,_,_⟩) (v:=?_) rfl (by kernel_rfl) (by kernel_rfl) (by kernel_rfl) (fun _ _ _ h=>h) (Or.inl ⟨by rfl,?_⟩) (by assumption) ?_
 rotate_left
 ·(intro w hSw;(try dsimp only at hSw);go_simp;try with_reducible rfl)
 try simp only [Act.put,List.setIfInBounds_toArray,List.set_cons_zero,List.set_cons_succ]
 refine wpAnyH_take (i:=5) (oi:=⟨_,_,_,_,_,_⟩) (v:=?_) rfl (by kernel_rfl) (by kernel_rfl) (by kernel_rfl) (fun _ _ _ h=>h) (Or.inl ⟨by rfl,?_⟩) (by assumption) ?_
 rotate_left
 ·(intro w hSw;(try dsimp only at hSw);go_simp;try with_reducible rfl)
 try simp only [Act.put,List.setIfInBounds_toArray,List.set_cons_zero,List.set_cons_succ]
 refine wpAnyH_ready (rs:=[6]) (by kernel_rfl) (by simp) ?_
 refine AllReadyH.cons (o:=⟨_,_,_,_,_,_⟩) rfl (fun K hK=>?_) AllReadyH.nil
 go_simp
 go_at_call 81
 refine (KP _ (by first|exact R0|exact R0.step (below_self _).drew)).mono ?_
 rintro e w1 ⟨rfl,hb1⟩
 exact⟨rfl,rfl,below_via b0.drew hb1⟩
theorem call9 (v:List UInt8) (ws:List (List UInt8)) (w:World) (b cap:Nat) (R:Rv w) (h:Wd w b 2 ws) (hm:ws.length=2) (n:Int) (hp:adW (wd ws 1)=.ok n)
  (h1:¬ (v=[110,101,116]/\2=2)) (h2:¬ (v=[97,100,100]/\2=3)) (h3:¬ (v=[116,97,107,101]/\2=2)) (h4:¬ (v=[112,108,97,99,101]/\2=3)) (h5:¬ (v=[108,101,97,118,101]/\2=2)) (h6:¬ (v=[110,101,120,116]/\2=4)) (h7:¬ (v=[104,111,115,116]/\2=3)) (h8:¬ (v=[108,105,115,116]/\2=1)) (h9:v=[119,104,111]/\2=2) :
  Calls Tryz.prog 50 #[.string ⟨v.toArray⟩,.slice (some ⟨b,2,none⟩) 2 cap] w fun e w'=>e=.returned (clV ⟨9,txt (wd ws 0),(0,0),0,n,txt []⟩)/\Below w.heap.size w w':=by
 have b0:=below_al (below_self w) zCall
 have hW:=h.step b0
 have k0:=hW.two (j:=0) (by omega) 2 rfl
 have k1:=hW.two (j:=1) (by omega) 3 rfl
 have KP:=fun W RW=>address_ok (wd ws 1) n W RW (h.len 1) hp
 clear hp
 have R0:=R.step b0
 have zc:=Zc.new w
 have gq:=eqGuard_row
 have E1:∀ W,(Op.equalIn 10000 150 (.agg #[.string ⟨v.toArray⟩,.int .i64 2]) (.agg #[.string ⟨#[110,101,116]⟩,.int .i64 2])).run Tryz.prog W=.ok false W:=fun W=>rowRun (v:=v) (t:=[110,101,116]) (m:=2) (k:=2) (b:=false) (decide_eq_false h1) W
 have E2:∀ W,(Op.equalIn 10000 150 (.agg #[.string ⟨v.toArray⟩,.int .i64 2]) (.agg #[.string ⟨#[97,100,100]⟩,.int .i64 3])).run Tryz.prog W=.ok false W:=fun W=>rowRun (v:=v) (t:=[97,100,100]) (m:=2) (k:=3) (b:=false) (decide_eq_false h2) W
 have E3:∀ W,(Op.equalIn 10000 150 (.agg #[.string ⟨v.toArray⟩,.int .i64 2]) (.agg #[.string ⟨#[116,97,107,101]⟩,.int .i64 2])).run Tryz.prog W=.ok false W:=fun W=>rowRun (v:=v) (t:=[116,97,107,101]) (m:=2) (k:=2) (b:=false) (decide_eq_false h3) W
 have E4:∀ W,(Op.equalIn 10000 150 (.agg #[.string ⟨v.toArray⟩,.int .i64 2]) (.agg #[.string ⟨#[112,108,97,99,101]⟩,.int .i64 3])).run Tryz.prog W=.ok false W:=fun W=>rowRun (v:=v) (t:=[112,108,97,99,101]) (m:=2) (k:=3) (b:=false) (decide_eq_false h4) W
 have E5:∀ W,(Op.equalIn 10000 150 (.agg #[.string ⟨v.toArray⟩,.int .i64 2]) (.agg #[.string ⟨#[108,101,97,118,101]⟩,.int .i64 2])).run Tryz.prog W=.ok false W:=fun W=>rowRun (v:=v) (t:=[108,101,97,118,101]) (m:=2) (k:=2) (b:=false) (decide_eq_false h5) W
 have E6:∀ W,(Op.equalIn 10000 150 (.agg #[.string ⟨v.toArray⟩,.int .i64 2]) (.agg #[.string ⟨#[110,101,120,116]⟩,.int .i64 4])).run Tryz.prog W=.ok false W:=fun W=>rowRun (v:=v) (t:=[110,101,120,116]) (m:=2) (k:=4) (b:=false) (decide_eq_false h6) W
 have E7:∀ W,(Op.equalIn 10000 150 (.agg #[.string ⟨v.toArray⟩,.int .i64 2]) (.agg #[.string ⟨#[104,111,115,116]⟩,.int .i64 3])).run Tryz.prog W=.ok false W:=fun W=>rowRun (v:=v) (t:=[104,111,115,116]) (m:=2) (k:=3) (b:=false) (decide_eq_false h7) W
 have E8:∀ W,(Op.equalIn 10000 150 (.agg #[.string ⟨v.toArray⟩,.int .i64 2]) (.agg #[.string ⟨#[108,105,115,116]⟩,.int .i64 1])).run Tryz.prog W=.ok false W:=fun W=>rowRun (v:=v) (t:=[108,105,115,116]) (m:=2) (k:=1) (b:=false) (decide_eq_false h8) W
 have E9:∀ W,(Op.equalIn 10000 150 (.agg #[.string ⟨v.toArray⟩,.int .i64 2]) (.agg #[.string ⟨#[119,104,111]⟩,.int .i64 2])).run Tryz.prog W=.ok true W:=fun W=>rowRun (v:=v) (t:=[119,104,111]) (m:=2) (k:=2) (b:=true) (decide_eq_true h9) W
 have n1:¬ b=w.heap.size:=by have:=h.lt;omega
 have n2:¬ w.heap.size=b:=by have:=h.lt;omega
 clear h1 h2 h3 h4 h5 h6 h7 h8 h9 h hW hm R
 generalize (wd ws 0)=x0 at *
 generalize (wd ws 1)=x1 at *
 go_enter Tryz.func50,Tryz.ntmps50
 go_wp2
 go_region_held3 (fun w2=>w2.cell? ⟨b,2,none⟩=some (.string ⟨x0.toArray⟩)/\w2.cell? ⟨b,3,none⟩=some (.string ⟨x1.toArray⟩)) (go_simp)
  (first|(go_at_call 81;refine (KP _ (by first|exact R0|exact R0.step (below_self _).drew)).mono ?_;rintro e w1 ⟨rfl,hb1⟩;have k0':=cell_lat hb1 k0;have k1':=cell_lat hb1 k1;have zc1:=zc.step (w':=w1) (by first|exact hb1|exact below_via (below_self _).drew hb1);obtain⟨c0,c1,c2,c3,c4,c5,c6,z0,z1,z2,z3,z4,z5,z6⟩:=id zc1))
 go_wp2
 obtain⟨W,hW,q0,q1,q2,q3,q4,q5,q6,hB⟩:=zc_put zc1 (.int .i64 9) (.string ⟨x0.toArray⟩) (.int .i64 0) (.int .i64 0) (.int .i64 0) (.int .i64 n) (.string ⟨#[]⟩)
 rw[hW]
 exact bodyPost_ret (v:=clV ⟨9,txt x0,(0,0),0,n,txt []⟩) (by simp[results,Tryz.results50,go_sem,txt,q0,q1,q2,q3,q4,q5,q6]) rfl ⟨rfl,(below_via b0.drew hb1).trans (hB _ (Nat.le_refl _))⟩
theorem call9e (v:List UInt8) (ws:List (List UInt8)) (w:World) (b cap:Nat) (R:Rv w) (h:Wd w b 2 ws) (hm:ws.length=2) (f:Int) (hp:adW (wd ws 1)=.error f)
  (h1:¬ (v=[110,101,116]/\2=2)) (h2:¬ (v=[97,100,100]/\2=3)) (h3:¬ (v=[116,97,107,101]/\2=2)) (h4:¬ (v=[112,108,97,99,101]/\2=3)) (h5:¬ (v=[108,101,97,118,101]/\2=2)) (h6:¬ (v=[110,101,120,116]/\2=4)) (h7:¬ (v=[104,111,115,116]/\2=3)) (h8:¬ (v=[108,105,115,116]/\2=1)) (h9:v=[119,104,111]/\2=2) :
  Calls Tryz.prog 50 #[.string ⟨v.toArray⟩,.slice (some ⟨b,2,none⟩) 2 cap] w fun e w'=>e=.panicked (thC f)/\Below w.heap.size w w':=by
 have b0:=below_al (below_self w) zCall
 have hW:=h.step b0
 have k0:=hW.two (j:=0) (by omega) 2 rfl
 have k1:=hW.two (j:=1) (by omega) 3 rfl
 have KP:=fun W RW=>(address_no (wd ws 1) f W RW (h.len 1) hp).2
 clear hp
 have R0:=R.step b0
 have zc:=Zc.new w
 have gq:=eqGuard_row
 have E1:∀ W,(Op.equalIn 10000 150 (.agg #[.string ⟨v.toArray⟩,.int .i64 2]) (.agg #[.string ⟨#[110,101,116]⟩,.int .i64 2])).run Tryz.prog W=.ok false W:=fun W=>rowRun (v:=v) (t:=[110,101,116]) (m:=2) (k:=2) (b:=false) (decide_eq_false h1) W
 have E2:∀ W,(Op.equalIn 10000 150 (.agg #[.string ⟨v.toArray⟩,.int .i64 2]) (.agg #[.string ⟨#[97,100,100]⟩,.int .i64 3])).run Tryz.prog W=.ok false W:=fun W=>rowRun (v:=v) (t:=[97,100,100]) (m:=2) (k:=3) (b:=false) (decide_eq_false h2) W
 have E3:∀ W,(Op.equalIn 10000 150 (.agg #[.string ⟨v.toArray⟩,.int .i64 2]) (.agg #[.string ⟨#[116,97,107,101]⟩,.int .i64 2])).run Tryz.prog W=.ok false W:=fun W=>rowRun (v:=v) (t:=[116,97,107,101]) (m:=2) (k:=2) (b:=false) (decide_eq_false h3) W
 have E4:∀ W,(Op.equalIn 10000 150 (.agg #[.string ⟨v.toArray⟩,.int .i64 2]) (.agg #[.string ⟨#[112,108,97,99,101]⟩,.int .i64 3])).run Tryz.prog W=.ok false W:=fun W=>rowRun (v:=v) (t:=[112,108,97,99,101]) (m:=2) (k:=3) (b:=false) (decide_eq_false h4) W
 have E5:∀ W,(Op.equalIn 10000 150 (.agg #[.string ⟨v.toArray⟩,.int .i64 2]) (.agg #[.string ⟨#[108,101,97,118,101]⟩,.int .i64 2])).run Tryz.prog W=.ok false W:=fun W=>rowRun (v:=v) (t:=[108,101,97,118,101]) (m:=2) (k:=2) (b:=false) (decide_eq_false h5) W
 have E6:∀ W,(Op.equalIn 10000 150 (.agg #[.string ⟨v.toArray⟩,.int .i64 2]) (.agg #[.string ⟨#[110,101,120,116]⟩,.int .i64 4])).run Tryz.prog W=.ok false W:=fun W=>rowRun (v:=v) (t:=[110,101,120,116]) (m:=2) (k:=4) (b:=false) (decide_eq_false h6) W
 have E7:∀ W,(Op.equalIn 10000 150 (.agg #[.string ⟨v.toArray⟩,.int .i64 2]) (.agg #[.string ⟨#[104,111,115,116]⟩,.int .i64 3])).run Tryz.prog W=.ok false W:=fun W=>rowRun (v:=v) (t:=[104,111,115,116]) (m:=2) (k:=3) (b:=false) (decide_eq_false h7) W
 have E8:∀ W,(Op.equalIn 10000 150 (.agg #[.string ⟨v.toArray⟩,.int .i64 2]) (.agg #[.string ⟨#[108,105,115,116]⟩,.int .i64 1])).run Tryz.prog W=.ok false W:=fun W=>rowRun (v:=v) (t:=[108,105,115,116]) (m:=2) (k:=1) (b:=false) (decide_eq_false h8) W
 have E9:∀ W,(Op.equalIn 10000 150 (.agg #[.string ⟨v.toArray⟩,.int .i64 2]) (.agg #[.string ⟨#[119,104,111]⟩,.int .i64 2])).run Tryz.prog W=.ok true W:=fun W=>rowRun (v:=v) (t:=[119,104,111]) (m:=2) (k:=2) (b:=true) (decide_eq_true h9) W
 have n1:¬ b=w.heap.size:=by have:=h.lt;omega
 have n2:¬ w.heap.size=b:=by have:=h.lt;omega
 clear h1 h2 h3 h4 h5 h6 h7 h8 h9 h hW hm R
 generalize (wd ws 0)=x0 at *
 generalize (wd ws 1)=x1 at *
 generalize hth:thC f=th at *
 go_enter Tryz.func50,Tryz.ntmps50
 go_wp2
 refine wp_region_held_drew (S:=(fun w2=>w2.cell? ⟨b,2,none⟩=some (.string ⟨x0.toArray⟩)/\w2.cell? ⟨b,3,none⟩=some (.string ⟨x1.toArray⟩))) (by kernel_rfl) (by exact⟨k0,k1⟩) (fun hHeld0=>?_)
 refine wpAnyH_take (i:=0) (oi:=⟨_,_,_,_,_,_⟩) (v:=?_) rfl (by kernel_rfl) (by kernel_rfl) (by kernel_rfl) (fun _ _ _ h=>h) (Or.inl ⟨by rfl,?_⟩) (by assumption) ?_
 rotate_left
 ·(intro w hSw;(try dsimp only at hSw);go_simp;try with_reducible rfl)
 try simp only [Act.put,List.setIfInBounds_toArray,List.set_cons_zero,List.set_cons_succ]
 refine wpAnyH_take (i:=1) (oi:=⟨_,_,_,_,_,_⟩) (v:=?_) rfl (by kernel_rfl) (by kernel_rfl) (by kernel_rfl) (fun _ _ _ h=>h) (Or.inl ⟨by rfl,?_⟩) (by assumption) ?_
 rotate_left
 ·(intro w hSw;(try dsimp only at hSw);go_simp;try with_reducible rfl)
 try simp only [Act.put,List.setIfInBounds_toArray,List.set_cons_zero,List.set_cons_succ]
 refine wpAnyH_take (i:=2) (oi:=⟨_,_,_,_,_,_⟩) (v:=?_) rfl (by kernel_rfl) (by kernel_rfl) (by kernel_rfl) (fun _ _ _ h=>h) (Or.inl ⟨by rfl,?_⟩) (by assumption) ?_
 rotate_left
 ·(intro w hSw;(try dsimp only at hSw);go_simp;try with_reducible rfl)
 try simp only [Act.put,List.setIfInBounds_toArray,List.set_cons_zero,List.set_cons_succ]
 refine wpAnyH_take (i:=3) (oi:=⟨_,_,_,_,_,_⟩) (v:=?_) rfl (by kernel_rfl) (by kernel_rfl) (by kernel_rfl) (fun _ _ _ h=>h) (Or.inl ⟨by rfl,?_⟩) (by assumption) ?_
 rotate_left
 ·(intro w hSw;(try dsimp only at hSw);go_simp;try with_reducible rfl)
 try simp only [Act.put,List.setIfInBounds_toArray,List.set_cons_zero,List.set_cons_succ]
 refine wpAnyH_take (i:=4) (oi:=⟨_,_,_,_,_,_⟩) (v:=?_) rfl (by kernel_rfl) (by kernel_rfl) (by kernel_rfl) (fun _ _ _ h=>h) (Or.inl ⟨by rfl,?_⟩) (by assumption) ?_
 rotate_left
 ·(intro w hSw;(try dsimp only at hSw);go_simp;try with_reducible rfl)
 try simp only [Act.put,List.setIfInBounds_toArray,List.set_cons_zero,List.set_cons_succ]
 refine wpAnyH_take (i:=5) (oi:=⟨_,_,_,_,_,_⟩) (v:=?_) rfl (by kernel_rfl) (by kernel_rfl) (by kernel_rfl) (fun _ _ _ h=>h) (Or.inl ⟨by rfl,?_⟩) (by assumption) ?_
 rotate_left
 ·(intro w hSw;(try dsimp only at hSw);go_simp;try with_reducible rfl)
 try simp only [Act.put,List.setIfInBounds_toArray,List.set_cons_zero,List.set_cons_succ]
 refine wpAnyH_ready (rs:=[6]) (by kernel_rfl) (by simp) ?_
 refine AllReadyH.cons (o:=⟨_,_,_,_,_,_⟩) rfl (fun K hK=>?_) AllReadyH.nil
 go_simp
 go_at_call 81
 refine (KP _ (by first|exact R0|exact R0.step (below_self _).drew)).mono ?_
 rintro e w1 ⟨rfl,hb1⟩
 exact⟨rfl,rfl,below_via b0.drew hb1⟩
end Go.Proofs.YtcjdoeclblhaeaaGreatDoor.Rn
namespace Go.Proofs.YtcjdoeclblhaeaaGreatDoor.Rn
open Go.RowKit Pa Vs
theorem call7 (v:List UInt8) (ws:List (List UInt8)) (w:World) (b cap:Nat) (R:Rv w) (h:Wd w b 2 ws) (hm:ws.length=3) (p:Bur.Sp) (hp:pfW (wd ws 1)=.ok p)
  (h1:¬ (v=[110,101,116]/\3=2)) (h2:¬ (v=[97,100,100]/\3=3)) (h3:¬ (v=[116,97,107,101]/\3=2)) (h4:¬ (v=[112,108,97,99,101]/\3=3)) (h5:¬ (v=[108,101,97,118,101]/\3=2)) (h6:¬ (v=[110,101,120,116]/\3=4)) (h7:v=[104,111,115,116]/\3=3) :
  Calls Tryz.prog 50 #[.string ⟨v.toArray⟩,.slice (some ⟨b,2,none⟩) 3 cap] w fun e w'=>e=.returned (clV ⟨7,txt (wd ws 0),p,0,0,txt (wd ws 2)⟩)/\Below w.heap.size w w':=by
 have b0:=below_al (below_self w) zCall
 have hW:=h.step b0
 have k0:=hW.two (j:=0) (by omega) 2 rfl
 have k1:=hW.two (j:=1) (by omega) 3 rfl
 have k2:=hW.two (j:=2) (by omega) 4 rfl
 have KP:=fun W RW=>prefix_ok (wd ws 1) p W RW (h.len 1) hp
 clear hp
 obtain⟨p1,p2⟩:=p
 have R0:=R.step b0
 have zc:=Zc.new w
 have gq:=eqGuard_row
 have E1:∀ W,(Op.equalIn 10000 150 (.agg #[.string ⟨v.toArray⟩,.int .i64 3]) (.agg #[.string ⟨#[110,101,116]⟩,.int .i64 2])).run Tryz.prog W=.ok false W:=fun W=>rowRun (v:=v) (t:=[110,101,116]) (m:=3) (k:=2) (b:=false) (decide_eq_false h1) W
 have E2:∀ W,(Op.equalIn 10000 150 (.agg #[.string ⟨v.toArray⟩,.int .i64 3]) (.agg #[.string ⟨#[97,100,100]⟩,.int .i64 3])).run Tryz.prog W=.ok false W:=fun W=>rowRun (v:=v) (t:=[97,100,100]) (m:=3) (k:=3) (b:=false) (decide_eq_false h2) W
 have E3:∀ W,(Op.equalIn 10000 150 (.agg #[.string ⟨v.toArray⟩,.int .i64 3]) (.agg #[.string ⟨#[116,97,107,101]⟩,.int .i64 2])).run Tryz.prog W=.ok false W:=fun W=>rowRun (v:=v) (t:=[116,97,107,101]) (m:=3) (k:=2) (b:=false) (decide_eq_false h3) W
 have E4:∀ W,(Op.equalIn 10000 150 (.agg #[.string ⟨v.toArray⟩,.int .i64 3]) (.agg #[.string ⟨#[112,108,97,99,101]⟩,.int .i64 3])).run Tryz.prog W=.ok false W:=fun W=>rowRun (v:=v) (t:=[112,108,97,99,101]) (m:=3) (k:=3) (b:=false) (decide_eq_false h4) W
 have E5:∀ W,(Op.equalIn 10000 150 (.agg #[.string ⟨v.toArray⟩,.int .i64 3]) (.agg #[.string ⟨#[108,101,97,118,101]⟩,.int .i64 2])).run Tryz.prog W=.ok false W:=fun W=>rowRun (v:=v) (t:=[108,101,97,118,101]) (m:=3) (k:=2) (b:=false) (decide_eq_false h5) W
 have E6:∀ W,(Op.equalIn 10000 150 (.agg #[.string ⟨v.toArray⟩,.int .i64 3]) (.agg #[.string ⟨#[110,101,120,116]⟩,.int .i64 4])).run Tryz.prog W=.ok false W:=fun W=>rowRun (v:=v) (t:=[110,101,120,116]) (m:=3) (k:=4) (b:=false) (decide_eq_false h6) W
 have E7:∀ W,(Op.equalIn 10000 150 (.agg #[.string ⟨v.toArray⟩,.int .i64 3]) (.agg #[.string ⟨#[104,111,115,116]⟩,.int .i64 3])).run Tryz.prog W=.ok true W:=fun W=>rowRun (v:=v) (t:=[104,111,115,116]) (m:=3) (k:=3) (b:=true) (decide_eq_true h7) W
 have n1:¬ b=w.heap.size:=by have:=h.lt;omega
 have n2:¬ w.heap.size=b:=by have:=h.lt;omega
 clear h1 h2 h3 h4 h5 h6 h7 h hW hm R
 generalize (wd ws 0)=x0 at *
 generalize (wd ws 1)=x1 at *
 generalize (wd ws 2)=x2 at *
 go_enter Tryz.func50,Tryz.ntmps50
 go_wp2
 go_region_held3 (fun w2=>w2.cell? ⟨b,2,none⟩=some (.string ⟨x0.toArray⟩)/\w2.cell? ⟨b,3,none⟩=some (.string ⟨x1.toArray⟩)/\w2.cell? ⟨b,4,none⟩=some (.string ⟨x2.toArray⟩)) (go_simp)
  (first|(go_at_call 80;refine (KP _ (by first|exact R0|exact R0.step (below_self _).drew)).mono ?_;rintro e w1 ⟨rfl,hb1⟩;have k0':=cell_lat hb1 k0;have k1':=cell_lat hb1 k1;have k2':=cell_lat hb1 k2;have zc1:=zc.step (w':=w1) (by first|exact hb1|exact below_via (below_self _).drew hb1);obtain⟨c0,c1,c2,c3,c4,c5,c6,z0,z1,z2,z3,z4,z5,z6⟩:=id zc1))
 go_wp2
 obtain⟨W,hW,q0,q1,q2,q3,q4,q5,q6,hB⟩:=zc_put zc1 (.int .i64 7) (.string ⟨x0.toArray⟩) (.int .i64 p1) (.int .i64 p2) (.int .i64 0) (.int .i64 0) (.string ⟨x2.toArray⟩)
 rw[hW]
 exact bodyPost_ret (v:=clV ⟨7,txt x0,(p1,p2),0,0,txt x2⟩) (by simp[results,Tryz.results50,go_sem,txt,q0,q1,q2,q3,q4,q5,q6]) rfl ⟨rfl,(below_via b0.drew hb1).trans (hB _ (Nat.le_refl _))⟩
theorem call7e (v:List UInt8) (ws:List (List UInt8)) (w:World) (b cap:Nat) (R:Rv w) (h:Wd w b 2 ws) (hm:ws.length=3) (f:Int) (hp:pfW (wd ws 1)=.error f)
  (h1:¬ (v=[110,101,116]/\3=2)) (h2:¬ (v=[97,100,100]/\3=3)) (h3:¬ (v=[116,97,107,101]/\3=2)) (h4:¬ (v=[112,108,97,99,101]/\3=3)) (h5:¬ (v=[108,101,97,118,101]/\3=2)) (h6:¬ (v=[110,101,120,116]/\3=4)) (h7:v=[104,111,115,116]/\3=3) :
  Calls Tryz.prog 50 #[.string ⟨v.toArray⟩,.slice (some ⟨b,2,none⟩) 3 cap] w fun e w'=>e=.panicked (thC f)/\Below w.heap.size w w':=by
 have b0:=below_al (below_self w) zCall
 have hW:=h.step b0
 have k0:=hW.two (j:=0) (by omega) 2 rfl
 have k1:=hW.two (j:=1) (by omega) 3 rfl
 have k2:=hW.two (j:=2) (by omega) 4 rfl
 have KP:=fun W RW=>(prefix_no (wd ws 1) f W RW (h.len 1) hp).2
 clear hp
 have R0:=R.step b0
 have zc:=Zc.new w
 have gq:=eqGuard_row
 have E1:∀ W,(Op.equalIn 10000 150 (.agg #[.string ⟨v.toArray⟩,.int .i64 3]) (.agg #[.string ⟨#[110,101,116]⟩,.int .i64 2])).run Tryz.prog W=.ok false W:=fun W=>rowRun (v:=v) (t:=[110,101,116]) (m:=3) (k:=2) (b:=false) (decide_eq_false h1) W
 have E2:∀ W,(Op.equalIn 10000 150 (.agg #[.string ⟨v.toArray⟩,.int .i64 3]) (.agg #[.string ⟨#[97,100,100]⟩,.int .i64 3])).run Tryz.prog W=.ok false W:=fun W=>rowRun (v:=v) (t:=[97,100,100]) (m:=3) (k:=3) (b:=false) (decide_eq_false h2) W
 have E3:∀ W,(Op.equalIn 10000 150 (.agg #[.string ⟨v.toArray⟩,.int .i64 3]) (.agg #[.string ⟨#[116,97,107,101]⟩,.int .i64 2])).run Tryz.prog W=.ok false W:=fun W=>rowRun (v:=v) (t:=[116,97,107,101]) (m:=3) (k:=2) (b:=false) (decide_eq_false h3) W
 have E4:∀ W,(Op.equalIn 10000 150 (.agg #[.string ⟨v.toArray⟩,.int .i64 3]) (.agg #[.string ⟨#[112,108,97,99,101]⟩,.int .i64 3])).run Tryz.prog W=.ok false W:=fun W=>rowRun (v:=v) (t:=[112,108,97,99,101]) (m:=3) (k:=3) (b:=false) (decide_eq_false h4) W
 have E5:∀ W,(Op.equalIn 10000 150 (.agg #[.string ⟨v.toArray⟩,.int .i64 3]) (.agg #[.string ⟨#[108,101,97,118,101]⟩,.int .i64 2])).run Tryz.prog W=.ok false W:=fun W=>rowRun (v:=v) (t:=[108,101,97,118,101]) (m:=3) (k:=2) (b:=false) (decide_eq_false h5) W
 have E6:∀ W,(Op.equalIn 10000 150 (.agg #[.string ⟨v.toArray⟩,.int .i64 3]) (.agg #[.string ⟨#[110,101,120,116]⟩,.int .i64 4])).run Tryz.prog W=.ok false W:=fun W=>rowRun (v:=v) (t:=[110,101,120,116]) (m:=3) (k:=4) (b:=false) (decide_eq_false h6) W
 have E7:∀ W,(Op.equalIn 10000 150 (.agg #[.string ⟨v.toArray⟩,.int .i64 3]) (.agg #[.string ⟨#[104,111,115,116]⟩,.int .i64 3])).run Tryz.prog W=.ok true W:=fun W=>rowRun (v:=v) (t:=[104,111,115,116]) (m:=3) (k:=3) (b:=true) (decide_eq_true h7) W
 have n1:¬ b=w.heap.size:=by have:=h.lt;omega
 have n2:¬ w.heap.size=b:=by have:=h.lt;omega
 clear h1 h2 h3 h4 h5 h6 h7 h hW hm R
 generalize (wd ws 0)=x0 at *
 generalize (wd ws 1)=x1 at *
 generalize (wd ws 2)=x2 at *
 generalize hth:thC f=th at *
 go_enter Tryz.func50,Tryz.ntmps50
 go_wp2
 refine wp_region_held_drew (S:=(fun w2=>w2.cell? ⟨b,2,none⟩=some (.string ⟨x0.toArray⟩)/\w2.cell? ⟨b,3,none⟩=some (.string ⟨x1.toArray⟩)/\w2.cell? ⟨b,4,none⟩=some (.string ⟨x2.toArray⟩))) (by kernel_rfl) (by exact⟨k0,k1,k2⟩) (fun hHeld0=>?_)
 refine wpAnyH_take (i:=0) (oi:=⟨_,_,_,_,_,_⟩) (v:=?_) rfl (by kernel_rfl) (by kernel_rfl) (by kernel_rfl) (fun _ _ _ h=>h) (Or.inl ⟨by rfl,?_⟩) (by assumption) ?_
 rotate_left
 ·(intro w hSw;(try dsimp only at hSw);go_simp;try with_reducible rfl)
 try simp only [Act.put,List.setIfInBounds_toArray,List.set_cons_zero,List.set_cons_succ]
 refine wpAnyH_take (i:=1) (oi:=⟨_,_,_,_,_,_⟩) (v:=?_) rfl (by kernel_rfl) (by kernel_rfl) (by kernel_rfl) (fun _ _ _ h=>h) (Or.inl ⟨by rfl,?_⟩) (by assumption) ?_
 rotate_left
 ·(intro w hSw;(try dsimp only at hSw);go_simp;try with_reducible rfl)
 try simp only [Act.put,List.setIfInBounds_toArray,List.set_cons_zero,List.set_cons_succ]
 refine wpAnyH_take (i:=2) (oi:=⟨_,_,_,_,_,_⟩) (v:=?_) rfl (by kernel_rfl) (by kernel_rfl) (by kernel_rfl) (fun _ _ _ h=>h) (Or.inl ⟨by rfl,?_⟩) (by assumption) ?_
 rotate_left
 ·(intro w hSw;(try dsimp only at hSw);go_simp;try with_reducible rfl)
 try simp only [Act.put,List.setIfInBounds_toArray,List.set_cons_zero,List.set_cons_succ]
 refine wpAnyH_take (i:=3) (oi:=⟨_,_,_,_,_,_⟩) (v:=?_) rfl (by kernel_rfl) (by kernel_rfl) (by kernel_rfl) (fun _ _ _ h=>h) (Or.inl ⟨by rfl,?_⟩) (by assumption) ?_
 rotate_left
 ·(intro w hSw;(try dsimp only at hSw);go_simp;try with_reducible rfl)
 try simp only [Act.put,List.setIfInBounds_toArray,List.set_cons_zero,List.set_cons_succ]
 refine wpAnyH_take (i:=4) (oi:=⟨_,_,_,_,_,_⟩) (v:=?_) rfl (by kernel_rfl) (by kernel_rfl) (by kernel_rfl) (fun _ _ _ h=>h) (Or.inl ⟨by rfl,?_⟩) (by assumption) ?_
 rotate_left
 ·(intro w hSw;(try dsimp only at hSw);go_simp;try with_reducible rfl)
 try simp only [Act.put,List.setIfInBounds_toArray,List.set_cons_zero,List.set_cons_succ]
 refine wpAnyH_take (i:=5) (oi:=⟨_,_,_,_,_,_⟩) (v:=?_) rfl (by kernel_rfl) (by kernel_rfl) (by kernel_rfl) (fun _ _ _ h=>h) (Or.inl ⟨by rfl,?_⟩) (by assumption) ?_
 rotate_left
 ·(intro w hSw;(try dsimp only at hSw);go_simp;try with_reducible rfl)
 try simp only [Act.put,List.setIfInBounds_toArray,List.set_cons_zero,List.set_cons_succ]
 refine wpAnyH_take (i:=7) (oi:=⟨_,_,_,_,_,_⟩) (v:=?_) rfl (by kernel_rfl) (by kernel_rfl) (by kernel_rfl) (fun _ _ _ h=>h) (Or.inl ⟨by rfl,?_⟩) (by assumption) ?_
 rotate_left
 ·(intro w hSw;(try dsimp only at hSw);go_simp;try with_reducible rfl)
 try simp only [Act.put,List.setIfInBounds_toArray,List.set_cons_zero,List.set_cons_succ]
 refine wpAnyH_take (i:=8) (oi:=⟨_,_,_,_,_,_⟩) (v:=?_) rfl (by kernel_rfl) (by kernel_rfl) (by kernel_rfl) (fun _ _ _ h=>h) (Or.inl ⟨by rfl,?_⟩) (by assumption) ?_
 rotate_left
 ·(intro w hSw;(try dsimp only at hSw);go_simp;try with_reducible rfl)
 try simp only [Act.put,List.setIfInBounds_toArray,List.set_cons_zero,List.set_cons_succ]
 refine wpAnyH_take (i:=9) (oi:=⟨_,_,_,_,_,_⟩) (v:=?_) rfl (by kernel_rfl) (by kernel_rfl) (by kernel_rfl) (fun _ _ _ h=>h) (Or.inl ⟨by rfl,?_⟩) (by assumption) ?_
 rotate_left
 ·(intro w hSw;(try dsimp only at hSw);go_simp;try with_reducible rfl)
 try simp only [Act.put,List.setIfInBounds_toArray,List.set_cons_zero,List.set_cons_succ]
 refine wpAnyH_ready (rs:=[6]) (by kernel_rfl) (by simp) ?_
 refine AllReadyH.cons (o:=⟨_,_,_,_,_,_⟩) rfl (fun K hK=>?_) AllReadyH.nil
 go_simp
 go_at_call 80
 refine (KP _ (by first|exact R0|exact R0.step (below_self _).drew)).mono ?_
 rintro e w1 ⟨rfl,hb1⟩
 exact⟨rfl,rfl,below_via b0.drew hb1⟩
end Go.Proofs.YtcjdoeclblhaeaaGreatDoor.Rn
