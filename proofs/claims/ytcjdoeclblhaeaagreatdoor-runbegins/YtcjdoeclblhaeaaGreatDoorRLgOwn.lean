/- -/
import Derived.Test.YtcjdoeclblhaeaaGreatDoorRAppOne
import Derived.Laws.AppendOwnNone
import Derived.Test.YtcjdoeclblhaeaaGreatDoorRVsMath
namespace Go.Proofs.YtcjdoeclblhaeaaGreatDoor
open Go.RowKit Vs
theorem infoLs:(Tryz.prog.info? 176).map (fun i=>(i.zero,i.size,i.bytes))=some (some (.slice none 0 0),1,24):=by kernel_rfl
theorem wpList_append_row {w:World} {ops:Array Oper} {rest:List Oper} {o:Oper} {a:Act} {Q:Exit->Act->World->Prop} (t e:TypeId) (size bytes:Nat) (z:Value) (ht:Tryz.prog.underlying t=some (.slice e))
  (hinf:(Tryz.prog.info? e).map (fun i=>(i.zero,i.size,i.bytes))=some (some z,size,bytes)) (hzs:z.cells.size=size) (hsz:0<size) (hby:bytes<=1000) (hgd:o.guard=none) (s x:Operand)
  (ho:o.op=.call { callee:=.builtin .append,args:=#[s,x],argTypes:=#[t,t] })
  (base:Nat) (v:Value) (n:Nat) (xs:List Value) (hs:a.eval s=v) (hown:w.ownsRow base e size v n xs) (hbase:base<=w.heap.size)
  (base2:Nat) (u:Value) (m:Nat) (news:List Value) (hx:a.eval x=u) (hsrc:w.ownsRow base2 e size u m news) (h1:∀ y∈news,y.oneCell'=true) (h63:n+m<=1000000)
  (h:∀ v' w',w'.ownsRow base e size v' (n+m) (xs++news)->w.grownBy w' v.ownBlock->(v'.ownBlock=v.ownBlock \/ v'.ownBlock=some w.heap.size)->wpList Tryz.prog ops Q rest (a.put o.dst v') w'):wpList Tryz.prog ops Q (o :: rest) a w:=by
 obtain⟨i0,hin,hz0,hz1,hz2⟩:=info_parts hinf
 have hb2:(n+m)*bytes<=140737488355328:=by
  have:=Nat.mul_le_mul h63 hby
  omega
 refine wpList_plain hgd fun K hK=>?_
 rcases hsrc.2 with ⟨hu,hm⟩|⟨g,cap,cur,hu,hb,hgb,hmc,_,hcs,htk⟩
 ·subst hm
  have hn:news=[]:=by have:=hsrc.1;simpa using this
  subst hn
  have hrun:=run_append_owned_none (P:=Tryz.prog) (w:=w) base t o.type e i0 size ht hin v n xs hown
  rw[hu] at hx
  unfold Oper.wp
  simp[execOp,ho,resolve,invoke,builtin,hs,hx,hrun,Result.andThen]
  exact hK _ _ (h v w (by simpa using hown) (World.grownBy.refl w _) (.inl rfl))
 ·subst hu
  obtain⟨v',w',hr,h2,h3,_,h5⟩:=run_append_own_at (P:=Tryz.prog) w base t o.type e i0 z size bytes ht hin hz0 hz1 hz2 hzs hsz v n xs hown ⟨g,0,none⟩ m cap news hsrc.1 (fun j y hj=>by
   rw[show (⟨g,0,none⟩:Addr).add j=⟨g,j,none⟩ from by unfold Addr.add;split <;> simp_all]
   rw[hsrc.cellAt j (by rw[<- hsrc.1];exact (List.getElem?_eq_some_iff.1 hj).1)]
   exact hj) h1 (by unfold maxLen;omega) hb2 hbase
  unfold Oper.wp execOp
  simp only [ho,resolve,invoke,builtin,Sem.run_bind,Sem.run_pure,Result.andThen_ok,List.map_toArray,List.map_cons,List.map_nil,hs,hx,hr]
  exact hK _ _ (h v' w' h2 h3 h5)
theorem own_trunc {w:World} {B e size n k cap:Nat} {p:Option Addr} {xs:List Value} (h:w.ownsRow B e size (.slice p n cap) n xs) (hk:k<=n):w.ownsRow B e size (.slice p k cap) k (xs.take (k*size)):=by
 have hx:=h.1
 refine⟨?_,?_⟩
 ·rw[List.length_take,hx,Nat.min_eq_left (Nat.mul_le_mul_right _ hk)]
 ·rcases h.2 with ⟨h0,h1⟩|⟨g,cap',cur,h0,hb,hg,hn,hc,hcs,htk⟩
  ·cases h0
   have:k=0:=by omega
   subst this
   exact .inl ⟨rfl,rfl⟩
  ·cases h0
   refine .inr ⟨g,cap,cur,rfl,hb,hg,by omega,hc,hcs,?_⟩
   rw[<- htk,List.take_take,Nat.min_eq_left (Nat.mul_le_mul_right _ hk)]
theorem row_but {E:Nat->Prop} {w w':World} {B e size n:Nat} {v:Value} {xs:List Value} (h:w.ownsRow B e size v n xs) (hb:But E w w') (hv:∀ j,v.ownBlock=some j -> ¬ E j):w'.ownsRow B e size v n xs:=by
 refine⟨h.1,?_⟩
 rcases h.2 with hn|⟨g,cap,cur,rfl,h1,hh,rest⟩
 ·exact .inl hn
 ·exact .inr ⟨g,cap,cur,rfl,h1,(hb.block g (Array.getElem?_eq_some_iff.1 hh).1 (hv g rfl)).trans hh,rest⟩
end Go.Proofs.YtcjdoeclblhaeaaGreatDoor
namespace Go.Proofs.YtcjdoeclblhaeaaGreatDoor
open Go.RowKit Vs
theorem lw_lt {n0 e size n:Nat} {w:World} {v:Value} {xs:List Value} (h:w.ownsRow n0 e size v n xs) {j:Nat} (hj:v.ownBlock=some j):n0<=j/\j<w.heap.size:=by
 rcases h.2 with ⟨h2,_⟩|⟨g,c,cur,h2,hb,hg,_⟩
 ·rw[h2] at hj;cases hj
 ·rw[h2] at hj
  have:g=j:=Option.some.inj hj
  subst this
  exact⟨hb,(Array.getElem?_eq_some_iff.1 hg).1⟩
theorem lw_form {n0 e size n:Nat} {w:World} {v:Value} {xs:List Value} (h:w.ownsRow n0 e size v n xs):∃ p c,v=.slice p n c/\n<=c/\c<=9223372036854775807/\(0<n -> ∃ g,p=some ⟨g,0,none⟩):=by
 rcases h.2 with ⟨h2,h3⟩|⟨g,c,cur,h2,_,_,h3,h4,_⟩
 ·exact⟨none,0,by rw[h2,h3],by omega,by decide,fun h=>by omega⟩
 ·exact⟨_,c,h2,h3,h4,fun _=>⟨g,rfl⟩⟩
theorem lw_set {w:World} {B i:Nat} {v:Value}:But (fun k=>k=B) w (w.setCell ⟨B,i,none⟩ v):=(But.refl (fun k=>k=B) w).setCell (p:=⟨B,i,none⟩) (.inl rfl) _
structure LX (w:World) (F:Nat->Prop) (B:Nat) (down:Bool) (wh room safe:Int) (v:Value) (bs:List UInt8):Prop where
 fB:F B
 c0:w.cell? ⟨B,0,none⟩=some (.bool down)
 c1:w.cell? ⟨B,1,none⟩=some (.int .i64 wh)
 c2:w.cell? ⟨B,2,none⟩=some (.int .i64 room)
 c3:w.cell? ⟨B,3,none⟩=some v
 c4:w.cell? ⟨B,4,none⟩=some (.int .i64 safe)
 fz:∀ i,i<5->w.frozen? ⟨B,i,none⟩=false
 row:w.ownsRow 0 5 1 v bs.length (byV bs)
 sep:∀ j,v.ownBlock=some j->F j/\j≠B
theorem LX.lt {w:World} {F:Nat->Prop} {B:Nat} {down:Bool} {wh room safe:Int} {v:Value} {bs:List UInt8} (h:LX w F B down wh room safe v bs):B<w.heap.size:=World.block_lt_of_cell? _ _ h.c0
theorem LX.but {E F:Nat->Prop} {w w':World} {B:Nat} {down:Bool} {wh room safe:Int} {v:Value} {bs:List UInt8} (h:LX w F B down wh room safe v bs) (hb:But E w w') (hE:∀ j,j<w.heap.size->F j -> ¬ E j):LX w' F B down wh room safe v bs:=by
 have hB:=hE B h.lt h.fB
 exact⟨h.fB,(hb.cell (p:=⟨B,0,none⟩) h.lt hB).trans h.c0,(hb.cell (p:=⟨B,1,none⟩) h.lt hB).trans h.c1,(hb.cell (p:=⟨B,2,none⟩) h.lt hB).trans h.c2,(hb.cell (p:=⟨B,3,none⟩) h.lt hB).trans h.c3,(hb.cell (p:=⟨B,4,none⟩) h.lt hB).trans h.c4,
  fun i hi=>(hb.frozen (p:=⟨B,i,none⟩) h.lt hB).trans (h.fz i hi),row_but h.row hb (fun j hj=>hE j (lw_lt h.row hj).2 (h.sep j hj).1),h.sep⟩
theorem LX.step {F:Nat->Prop} {w w':World} {B:Nat} {down:Bool} {wh room safe:Int} {v:Value} {bs:List UInt8} (h:LX w F B down wh room safe v bs) (hb:Below w.heap.size w w'):LX w' F B down wh room safe v bs:=h.but (E:=fun _=>False) (.below hb) (fun _ _ _=>id)
theorem LX.mono {F H:Nat->Prop} {w:World} {B:Nat} {down:Bool} {wh room safe:Int} {v:Value} {bs:List UInt8} (h:LX w F B down wh room safe v bs) (hH:∀ j,j<w.heap.size->F j->H j):LX w H B down wh room safe v bs:=
 ⟨hH B h.lt h.fB,h.c0,h.c1,h.c2,h.c3,h.c4,h.fz,h.row,fun j hj=>⟨hH j (lw_lt h.row hj).2 (h.sep j hj).1,(h.sep j hj).2⟩⟩
theorem LX.set0 {F:Nat->Prop} {w:World} {B:Nat} {down:Bool} {wh room safe:Int} {v:Value} {bs:List UInt8} (h:LX w F B down wh room safe v bs) (b:Bool):LX (w.setCell ⟨B,0,none⟩ (.bool b)) F B b wh room safe v bs:=by
 obtain⟨fB,c0,c1,c2,c3,c4,fz,row,sep⟩:=h
 have f0:=fz 0 (by decide);have f1:=fz 1 (by decide);have f2:=fz 2 (by decide);have f3:=fz 3 (by decide);have f4:=fz 4 (by decide)
 refine⟨fB,by go_simp,by go_simp,by go_simp,by go_simp,by go_simp,fun i hi=>?_,row_but row lw_set (fun j hj=>(sep j hj).2),sep⟩
 match i,hi with
 | 0,_=>go_simp
 | 1,_=>go_simp
 | 2,_=>go_simp
 | 3,_=>go_simp
 | 4,_=>go_simp
theorem LX.set1 {F:Nat->Prop} {w:World} {B:Nat} {down:Bool} {wh room safe:Int} {v:Value} {bs:List UInt8} (h:LX w F B down wh room safe v bs) (n:Int):LX (w.setCell ⟨B,1,none⟩ (.int .i64 n)) F B down n room safe v bs:=by
 obtain⟨fB,c0,c1,c2,c3,c4,fz,row,sep⟩:=h
 have f0:=fz 0 (by decide);have f1:=fz 1 (by decide);have f2:=fz 2 (by decide);have f3:=fz 3 (by decide);have f4:=fz 4 (by decide)
 refine⟨fB,by go_simp,by go_simp,by go_simp,by go_simp,by go_simp,fun i hi=>?_,row_but row lw_set (fun j hj=>(sep j hj).2),sep⟩
 match i,hi with
 | 0,_=>go_simp
 | 1,_=>go_simp
 | 2,_=>go_simp
 | 3,_=>go_simp
 | 4,_=>go_simp
theorem LX.set4 {F:Nat->Prop} {w:World} {B:Nat} {down:Bool} {wh room safe:Int} {v:Value} {bs:List UInt8} (h:LX w F B down wh room safe v bs) (n:Int):LX (w.setCell ⟨B,4,none⟩ (.int .i64 n)) F B down wh room n v bs:=by
 obtain⟨fB,c0,c1,c2,c3,c4,fz,row,sep⟩:=h
 have f0:=fz 0 (by decide);have f1:=fz 1 (by decide);have f2:=fz 2 (by decide);have f3:=fz 3 (by decide);have f4:=fz 4 (by decide)
 refine⟨fB,by go_simp,by go_simp,by go_simp,by go_simp,by go_simp,fun i hi=>?_,row_but row lw_set (fun j hj=>(sep j hj).2),sep⟩
 match i,hi with
 | 0,_=>go_simp
 | 1,_=>go_simp
 | 2,_=>go_simp
 | 3,_=>go_simp
 | 4,_=>go_simp
theorem LX.set3 {F:Nat->Prop} {w:World} {B:Nat} {down:Bool} {wh room safe:Int} {v:Value} {bs:List UInt8} (h:LX w F B down wh room safe v bs) {u:Value} {bs':List UInt8} (row':w.ownsRow 0 5 1 u bs'.length (byV bs')) (sep':∀ j,u.ownBlock=some j->F j/\j≠B):LX (w.setCell ⟨B,3,none⟩ u) F B down wh room safe u bs':=by
 obtain⟨fB,c0,c1,c2,c3,c4,fz,row,sep⟩:=h
 have f0:=fz 0 (by decide);have f1:=fz 1 (by decide);have f2:=fz 2 (by decide);have f3:=fz 3 (by decide);have f4:=fz 4 (by decide)
 refine⟨fB,by go_simp,by go_simp,by go_simp,by go_simp,by go_simp,fun i hi=>?_,row_but row' lw_set (fun j hj=>(sep' j hj).2),sep'⟩
 match i,hi with
 | 0,_=>go_simp
 | 1,_=>go_simp
 | 2,_=>go_simp
 | 3,_=>go_simp
 | 4,_=>go_simp
def Wh (n left:Int):Prop:=(0<=left->n=left)/\(left<0->n<0) /\ -9223372036854775808<=n/\n<=9223372036854775807
theorem Wh.zero {n left:Int} (h:Wh n left):n=0↔left=0:=by
 obtain⟨h1,h2,_,_⟩:=h
 constructor
 ·intro e;by_cases c:0<=left
  ·rw[<- h1 c,e]
  ·have:=h2 (by omega);omega
 ·intro e;rw[h1 (by omega),e]
theorem Wh.less {n left:Int} (h:Wh n left):Wh (less n) (less left):=by
 obtain⟨h1,h2,h3,h4⟩:=h
 by_cases c:0<=left
 ·have e:=h1 c
  subst e
  unfold Vs.less
  split
  ·exact⟨fun _=>rfl,fun h=>by omega,by omega,by omega⟩
  ·exact⟨fun _=>rfl,fun h=>by omega,by omega,by omega⟩
 ·have:=h2 (by omega)
  unfold Vs.less
  rw[if_neg (by omega),if_neg (by omega)]
  exact⟨h1,h2,h3,h4⟩
theorem Wh.never:Wh (-1) (-1):=⟨fun h=>by omega,fun _=>by omega,by omega,by omega⟩
def LT (w:World) (F:Nat->Prop) (B:Nat) (g:Lg):Prop:=∃ v wh,Wh wh g.left/\LX w F B g.down wh g.room g.safe v g.by
theorem restore {F:Nat->Prop} {w:World} {B:Nat} {down:Bool} {wh room safe:Int} {v:Value} {bs:List UInt8} (h:LX w F B down wh room safe v bs) :
  Calls Tryz.prog 28 #[.pointer (some ⟨B,0,none⟩)] w fun e w'=>e=.returned (.tuple #[])/\LX w' F B false (-1) room safe v bs/\But (fun j=>j=B) w w'/\w'.heap.size=w.heap.size:=by
 have c0:=h.c0
 have c1:=h.c1
 have f0:=h.fz 0 (by decide)
 have f1:=h.fz 1 (by decide)
 have hd:=(h.set0 false).set1 (-1)
 go_enter Tryz.func28,Tryz.ntmps28
 go_wp2
 go_end0
 exact⟨rfl,hd,lw_set.trans lw_set,by simp[World.setCell]⟩
theorem failIn {F:Nat->Prop} {w:World} {B:Nat} {down:Bool} {wh room safe:Int} {v:Value} {bs:List UInt8} (h:LX w F B down wh room safe v bs) (n:Int) :
  Calls Tryz.prog 158 #[.pointer (some ⟨B,0,none⟩),.int .i64 n] w fun e w'=>e=.returned (.tuple #[])/\LX w' F B down n room safe v bs/\But (fun j=>j=B) w w':=by
 have c1:=h.c1
 have f1:=h.fz 1 (by decide)
 have hd:=h.set1 n
 go_enter Tryz.func158,Tryz.ntmps158
 go_wp2
 go_end0
 exact⟨rfl,hd,lw_set⟩
theorem failing {F:Nat->Prop} {w:World} {B:Nat} {wh room safe:Int} {v:Value} {bs:List UInt8} (h:LX w F B false wh room safe v bs) (hw : -9223372036854775808<=wh) (hw':wh<=9223372036854775807) :
  Calls Tryz.prog 120 #[.pointer (some ⟨B,0,none⟩)] w fun e w'=>e=.returned (.bool (decide (wh=0)))/\LX w' F B (decide (wh=0)) (less wh) room safe v bs/\But (fun j=>j=B) w w':=by
 have c0:=h.c0
 have c1:=h.c1
 have f0:=h.fz 0 (by decide)
 have f1:=h.fz 1 (by decide)
 by_cases hp:0<wh
 ·have hd:=h.set1 (wh - 1)
  rw[decide_eq_false (show ¬ wh=0 by omega),less,if_pos hp]
  go_enter Tryz.func120,Tryz.ntmps120
  go_wp2
  go_ret
  exact⟨rfl,hd,lw_set⟩
 ·rw[less,if_neg hp]
  by_cases h0:wh=0
  ·have e0:(wh==0)=true:=by simpa using h0
   have hd:=h.set0 true
   rw[decide_eq_true h0]
   clear h0
   go_enter Tryz.func120,Tryz.ntmps120
   go_wp2
   go_ret
   exact⟨rfl,hd,lw_set⟩
  ·have e0:(wh==0)=false:=by simpa using h0
   have hd:=h.set0 false
   rw[decide_eq_false h0]
   clear h0
   go_enter Tryz.func120,Tryz.ntmps120
   go_wp2
   go_ret
   exact⟨rfl,hd,lw_set⟩
theorem newOk (w:World) {room:Int} (h0:0<=room) (h1:room<=100000) :
  Calls Tryz.prog 19 #[.int .i64 room] w fun e w'=>∃ B,e=.returned (.tuple #[.pointer (some ⟨B,0,none⟩),.nilIface])/\LT w' (fun j=>w.heap.size<=j/\j<w'.heap.size) B (lg0 room)/\Below w.heap.size w w':=by
 have hx:LX (w.alloc (.cells #[.bool false,.int .i64 0,.int .i64 room,.slice none 0 0,.int .i64 0] 75)) (fun j=>j=w.heap.size) w.heap.size false 0 room 0 (.slice none 0 0) []:=by
  refine⟨rfl,by simp,by simp,by simp,by simp,by simp,fun i hi=>by simp,World.ownsRow_nil _ _ _ _,fun j hj=>by cases hj⟩
 go_enter Tryz.func19,Tryz.ntmps19
 go_wp2_with (go_at_call 28;refine (restore hx).mono ?_;rintro e w2 ⟨rfl,hx2,hb2,hs2⟩)
 go_ret2
 have hB:Below w.heap.size w w2:=(below_al (below_self w) _).trans (hb2.under (by simp) (fun k hk e=>by omega))
 simp at hs2
 exact⟨_,rfl,⟨_,_,Wh.never,hx2.mono (fun j _ hj=>by have hj:j=w.heap.size:=hj;omega)⟩,hB⟩
theorem newNo (w:World) {room:Int} (h:¬ (0<=room/\room<=100000)) :
  Calls Tryz.prog 19 #[.int .i64 room] w fun e w'=>∃ p,e=.returned (.tuple #[.pointer p,errN 1])/\Below w.heap.size w w':=by
 by_cases h0:room<0
 ·go_enter Tryz.func19,Tryz.ntmps19
  go_wp2
  go_ret2
  first|exact⟨none,rfl,below_self _⟩|exact⟨⟨none,rfl⟩,below_self _⟩
 ·have h1:100000<room:=by omega
  clear h
  go_enter Tryz.func19,Tryz.ntmps19
  go_wp2
  go_ret2
  first|exact⟨none,rfl,below_self _⟩|exact⟨⟨none,rfl⟩,below_self _⟩
theorem lgFail {w:World} {F:Nat->Prop} {B:Nat} {g:Lg} (n:Int) (h0 : -9223372036854775808<=n) (h1:n<=9223372036854775807) (h:LT w F B g) :
  Calls Tryz.prog 112 #[.pointer (some ⟨B,0,none⟩),.int .i64 n] w fun e w'=>e=.returned (.tuple #[])/\LT w' (Nw F w w') B (faG g n)/\But F w w':=by
 obtain⟨v,wh,hw,hx⟩:=h
 have hlt:=hx.lt
 go_enter Tryz.func112,Tryz.ntmps112
 go_wp2_with (go_at_call 158;refine (failIn hx n).mono ?_;rintro e w2 ⟨rfl,hx2,hb2⟩)
 go_end0
 refine⟨rfl,⟨v,n,?_,hx2.mono (fun j _ hj=>.inl hj)⟩,hb2.mono (fun k _ e=>by rw[e];exact hx.fB)⟩
 show Wh n (if n<0 then -1 else n)
 by_cases c:n<0
 ·rw[if_pos c];exact⟨fun h=>by omega,fun _=>c,h0,h1⟩
 ·rw[if_neg c];exact⟨fun _=>rfl,fun h=>by omega,h0,h1⟩
theorem lgSync {w:World} {F:Nat->Prop} {B:Nat} {g:Lg} (h:LT w F B g) (ok:OkL g) :
  Calls Tryz.prog 91 #[.pointer (some ⟨B,0,none⟩)] w fun e w'=>e=.returned (ev (syF g))/\LT w' (Nw F w w') B (syG g)/\But F w w':=by
 obtain⟨v,wh,hw,hx⟩:=h
 have hlt:=hx.lt
 have c0:=hx.c0
 by_cases hd:g.down=true
 ·rw[show syF g=8 from if_pos hd,show syG g=g from if_pos hd]
  rw[hd] at c0
  clear hd
  go_enter Tryz.func91,Tryz.ntmps91
  go_wp2
  go_ret
  exact⟨rfl,⟨v,wh,hw,hx.mono (fun j _ hj=>.inl hj)⟩,.refl _ _⟩
 ·have hd':g.down=false:=by simpa using hd
  rw[hd'] at c0 hx
  have hfB:=hx.fB
  have K:=failing hx hw.2.2.1 hw.2.2.2
  by_cases h0:g.left=0
  ·have e0:=hw.zero.2 h0
   rw[show syF g=8 from by rw[syF,if_neg hd,if_pos h0],show syG g={ g with down:=true } from by rw[syG,if_neg hd,if_pos h0]]
   rw[decide_eq_true e0] at K
   have hwl:Wh (less wh) g.left:=by have:=hw.less;rw[show less g.left=g.left from by rw[h0];rfl] at this;exact this
   clear h0 e0 hd
   go_enter Tryz.func91,Tryz.ntmps91
   go_wp2_with (go_at_call 120;refine K.mono ?_;rintro e w2 ⟨rfl,hx2,hb2⟩)
   go_ret
   exact⟨rfl,⟨v,_,hwl,hx2.mono (fun j _ hj=>.inl hj)⟩,hb2.mono (fun k _ e=>by rw[e];exact hfB)⟩
  ·have e0:¬ wh=0:=fun e=>h0 (hw.zero.1 e)
   rw[show syF g=0 from by rw[syF,if_neg hd,if_neg h0],show syG g={ g with safe:=g.by.length,left:=less g.left } from by rw[syG,if_neg hd,if_neg h0]]
   rw[decide_eq_false e0] at K
   have hwl:=hw.less
   have hb1:=ok.few.2.1
   clear h0 e0 hd
   go_enter Tryz.func91,Tryz.ntmps91
   go_wp2_with (go_at_call 120;refine K.mono ?_;rintro e w2 ⟨rfl,hx2,hb2⟩;have d3:=hx2.c3;have d4:=hx2.c4;have f4:=hx2.fz 4 (by decide);obtain⟨p3,cp3,e3,-⟩:=lw_form hx2.row;rw[e3] at d3)
   go_ret
   have hx3:=hx2.set4 (g.by.length:Nat)
   refine⟨rfl,⟨v,_,hwl,?_⟩,(hb2.trans lw_set).mono (fun k _ e=>by rw[e];exact hfB)⟩
   rw[<- hd'] at hx3
   exact hx3.mono (fun j _ hj=>.inl hj)
end Go.Proofs.YtcjdoeclblhaeaaGreatDoor
