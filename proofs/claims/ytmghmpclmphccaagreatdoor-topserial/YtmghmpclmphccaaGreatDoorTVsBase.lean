/- -/
import Derived.Test.YtmghmpclmphccaaGreatDoorTAdBase
import Derived.Test.YtmghmpclmphccaaGreatDoorTVsMath
set_option maxHeartbeats 2000000
namespace Go.Proofs.YtmghmpclmphccaaGreatDoor
open Go.RowKit
def PrC (w:World) (b off:Nat) (l:List Vs.Pr):Prop:=
 ∀ i x,l[i]? = some x->w.cell? ⟨b,off+i*2,none⟩=some (.string x.1)/\w.cell? ⟨b,off+i*2+1,none⟩=some (.string x.2)
def PrAt (w:World) (p:Option Addr) (l:List Vs.Pr):Prop:=
 0<l.length -> ∃ b off,p=some ⟨b,off,none⟩/\b<w.heap.size/\PrC w b off l
theorem PrAt.step {w w':World} {p:Option Addr} {l:List Vs.Pr} (h:PrAt w p l) (hb:Below w.heap.size w w'):PrAt w' p l:=by
 intro hl
 obtain⟨b,off,rfl,hlt,hc⟩:=h hl
 refine⟨b,off,rfl,Nat.lt_of_lt_of_le hlt hb.size,fun i x hx=>?_⟩
 rw[hb.cell (p:=⟨b,off+i*2,none⟩) hlt,hb.cell (p:=⟨b,off+i*2+1,none⟩) hlt]
 exact hc i x hx
def prV (l:List Vs.Pr):List Value:=l.flatMap fun x=>[.string x.1,.string x.2]
theorem prV_len:∀ l:List Vs.Pr,(prV l).length=l.length*2
 | []=>rfl
 | s :: r=>by show ((prV r).length+1+1)=_;rw[prV_len r,List.length_cons];omega
theorem prV_app (l m:List Vs.Pr):prV (l++m)=prV l++prV m:=by simp[prV]
theorem prV_at:∀ (l:List Vs.Pr) (i:Nat) (x:Vs.Pr),l[i]? = some x->(prV l)[i*2]? = some (.string x.1)/\(prV l)[i*2+1]? = some (.string x.2)
 | s :: r,0,x,h=>by cases (Option.some.inj h);exact⟨rfl,rfl⟩
 | s :: r,i+1,x,h=>by
  have:=prV_at r i x (by simpa using h)
  rw[show (i+1)*2=i*2+2 from by omega,show i*2+2+1=i*2+1+2 from by omega]
  exact this
theorem prAt_own {w:World} {B n cap e:Nat} {p:Option Addr} {l:List Vs.Pr} (h:w.ownsRow B e 2 (.slice p n cap) l.length (prV l)):n=l.length/\PrAt w p l:=by
 rcases h.2 with ⟨h0,h1⟩|⟨g,cap',cur,h0,_,hg,_,_,_,_⟩
 ·cases h0;exact⟨h1.symm,fun hp=>by omega⟩
 ·cases h0
  refine⟨rfl,fun _=>⟨g,0,rfl,(Array.getElem?_eq_some_iff.1 hg).1,fun i x hx=>?_⟩⟩
  have hi:=(List.getElem?_eq_some_iff.1 hx).1
  have:=prV_at l i x hx
  rw[Nat.zero_add,h.cellAt (i*2) (by omega),h.cellAt (i*2+1) (by omega)]
  exact this
theorem own_below {w w':World} {B e size n:Nat} {v:Value} {xs:List Value} (h:w.ownsRow B e size v n xs) (hb:Below w.heap.size w w'):w'.ownsRow B e size v n xs:=by
 refine⟨h.1,?_⟩
 rcases h.2 with hn|⟨g,cap,cur,rfl,h1,hg,rest⟩
 ·exact .inl hn
 ·exact .inr ⟨g,cap,cur,rfl,h1,(hb.block g (Array.getElem?_eq_some_iff.1 hg).1).trans hg,rest⟩
theorem own_form {w:World} {B e size n:Nat} {v:Value} {xs:List Value} (h:w.ownsRow B e size v n xs):∃ p cp,v=.slice p n cp:=by
 rcases h.2 with ⟨rfl,rfl⟩|⟨g,cp,_,rfl,_⟩
 ·exact⟨_,_,rfl⟩
 ·exact⟨_,_,rfl⟩
open Vs in
theorem leq_bl (lo k:ByteArray):(Op.bytesLess lo.toList k.toList || lo.toList==k.toList) = !bl k lo:=by
 rw[beq_str]
 cases h:bl k lo
 ·by_cases e:lo=k
  ·simp[e]
  ·have:bl lo k=true:=by
    cases g:bl lo k
    ·exact absurd (bl_tri g h) e
    ·rfl
   rw[bl] at this
   simp[this]
 ·have h1:=bl_asym h
  have h2:lo≠k:=fun e=>by rw[e,bl_irr] at h;cases h
  rw[bl] at h1
  simp[h1,h2]
end Go.Proofs.YtmghmpclmphccaaGreatDoor
namespace Go.Proofs.YtmghmpclmphccaaGreatDoor
open Go.RowKit
theorem flat_at {α : Type} {enc : α -> List Value} {k:Nat} (hk:∀ x,(enc x).length=k):∀ (l:List α) (j:Nat),j<l.length*k->(l.flatMap enc)[j]? = (l[j / k]?).bind (fun x=>(enc x)[j % k]?)
 | [],j,h=>by simp at h
 | x :: r,j,h=>by
  rw[List.length_cons,Nat.add_mul,Nat.one_mul] at h
  have k0:0<k:=by
   rcases Nat.eq_zero_or_pos k with e|e
   ·subst e;simp at h
   ·exact e
  rw[List.flatMap_cons]
  by_cases c:j<k
  ·rw[List.getElem?_append_left (by rw[hk];exact c),Nat.div_eq_of_lt c,Nat.mod_eq_of_lt c];rfl
  ·rw[List.getElem?_append_right (by rw[hk];omega),hk,flat_at hk r (j - k) (by omega)]
   have e1:j / k=(j - k) / k+1:=by
    rw[<- Nat.add_div_right _ k0,Nat.sub_add_cancel (by omega)]
   have e2:j % k=(j - k) % k:=by
    rw[<- Nat.add_mod_right (j - k) k,Nat.sub_add_cancel (by omega)]
   rw[e1,e2];rfl
theorem flat_len {α : Type} {enc : α -> List Value} {k:Nat} (hk:∀ x,(enc x).length=k):∀ (l:List α),(l.flatMap enc).length=l.length*k
 | []=>by simp
 | x :: r=>by rw[List.flatMap_cons,List.length_append,flat_len hk r,hk,List.length_cons,Nat.add_mul,Nat.one_mul,Nat.add_comm]
end Go.Proofs.YtmghmpclmphccaaGreatDoor
namespace Go.Proofs.YtmghmpclmphccaaGreatDoor
open Go.RowKit
def ChC (w:World) (b off:Nat) (l:List Vs.Chg):Prop:=
 ∀ i x,l[i]? = some x->w.cell? ⟨b,off+i*3,none⟩=some (.string x.k)/\w.cell? ⟨b,off+i*3+1,none⟩=some (.string x.v)/\w.cell? ⟨b,off+i*3+2,none⟩=some (.bool x.g)
def ChAt (w:World) (p:Option Addr) (l:List Vs.Chg):Prop:=
 0<l.length -> ∃ b off,p=some ⟨b,off,none⟩/\b<w.heap.size/\ChC w b off l
def chV (l:List Vs.Chg):List Value:=l.flatMap fun x=>[.string x.k,.string x.v,.bool x.g]
theorem chV_app (l m:List Vs.Chg):chV (l++m)=chV l++chV m:=by simp[chV]
theorem chV_at:∀ (l:List Vs.Chg) (i:Nat) (x:Vs.Chg),l[i]? = some x->(chV l)[i*3]? = some (.string x.k)/\(chV l)[i*3+1]? = some (.string x.v)/\(chV l)[i*3+2]? = some (.bool x.g)
 | s :: r,0,x,h=>by cases (Option.some.inj h);exact⟨rfl,rfl,rfl⟩
 | s :: r,i+1,x,h=>by
  have:=chV_at r i x (by simpa using h)
  rw[show (i+1)*3=i*3+3 from by omega,show i*3+3+1=i*3+1+3 from by omega,show i*3+3+2=i*3+2+3 from by omega]
  exact this
theorem chV_one (l:List Vs.Chg):∀ y∈chV l,y.oneCell'=true:=by
 intro y hy
 simp only [chV,List.mem_flatMap] at hy
 obtain⟨s,_,hs⟩:=hy
 simp at hs
 rcases hs with rfl|rfl|rfl <;> rfl
theorem chAt_own {w:World} {B n cap e:Nat} {p:Option Addr} {l:List Vs.Chg} (h:w.ownsRow B e 3 (.slice p n cap) l.length (chV l)):n=l.length/\ChAt w p l:=by
 rcases h.2 with ⟨h0,h1⟩|⟨g,cap',cur,h0,_,hg,_,_,_,_⟩
 ·cases h0;exact⟨h1.symm,fun hp=>by omega⟩
 ·cases h0
  refine⟨rfl,fun _=>⟨g,0,rfl,(Array.getElem?_eq_some_iff.1 hg).1,fun i x hx=>?_⟩⟩
  have hi:=(List.getElem?_eq_some_iff.1 hx).1
  have:=chV_at l i x hx
  rw[Nat.zero_add,h.cellAt (i*3) (by omega),h.cellAt (i*3+1) (by omega),h.cellAt (i*3+2) (by omega)]
  exact this
end Go.Proofs.YtmghmpclmphccaaGreatDoor
namespace Go.Proofs.YtmghmpclmphccaaGreatDoor
open Go.RowKit
abbrev Nw (F:Nat->Prop) (w w':World):Nat->Prop:=fun j=>F j \/ (w.heap.size<=j/\j<w'.heap.size)
end Go.Proofs.YtmghmpclmphccaaGreatDoor
namespace Go.Proofs.YtmghmpclmphccaaGreatDoor
open Go.RowKit
def PrIn (G:Nat->Prop) (w:World) (p:Option Addr) (l:List Vs.Pr):Prop:=
 0<l.length -> ∃ b off,p=some ⟨b,off,none⟩/\b<w.heap.size/\G b/\PrC w b off l
theorem PrIn.at {G:Nat->Prop} {w:World} {p:Option Addr} {l:List Vs.Pr} (h:PrIn G w p l):PrAt w p l:=fun hl=>by
 obtain⟨b,off,h1,h2,_,h3⟩:=h hl
 exact⟨b,off,h1,h2,h3⟩
end Go.Proofs.YtmghmpclmphccaaGreatDoor
namespace Go.Proofs.YtmghmpclmphccaaGreatDoor
open Go.RowKit Vs
abbrev Td:=World->(Nat->Prop)->Nat->Dk->Prop
structure Sm (d:Dk):Prop where
 wt:wt d<=900
 ids:d.ids<=100000
theorem Sm.log {d:Dk} (h:Sm d):wtL d.lg.ls<=1000:=by
 have:=h.wt
 unfold Vs.wt at this
 omega
theorem Sm.vs {d:Dk} (h:Sm d) (ok:OkD d):d.vs.length<=1000:=Nat.le_trans ok.len h.log
theorem last_max {d:Dk} (ok:OkD d):d.last<=1000000:=by
 have h1:=ok.last
 have h2:=ok.lg.few.1
 omega
theorem sees_at {d:Dk} (ok:OkD d) {o:Ox} (ho:o∈d.op):atF o.sees=0:=by
 have h1:=(ok.op o ho).s0
 have h2:=(ok.op o ho).s1
 have h3:=last_max ok
 exact if_neg (by omega)
def Spz (d:Dk):Prop:=∀ o∈d.op,∀ s∈o.spans,s.1.size<9223372036854775807
structure DFace (T:World->(Nat->Prop)->Nat->Dk->Prop):Prop where
 but:∀ {w w':World} {E F:Nat->Prop} {B:Nat} {d:Dk},T w F B d->But E w w'->(∀ j,j<w.heap.size->F j -> ¬ E j)->T w' F B d
 newOk:∀ (w:World) {room:Int},0<=room->room<=100000->Calls Tryz.prog 25 #[.int .i64 room] w fun e w'=>∃ B,e=.returned (.tuple #[.pointer (some ⟨B,0,none⟩),.nilIface])/\T w' (fun j=>w.heap.size<=j/\j<w'.heap.size) B (dk0 room)/\Below w.heap.size w w'
 newNo:∀ (w:World) {room:Int},¬ (0<=room/\room<=100000)->Calls Tryz.prog 25 #[.int .i64 room] w fun e w'=>∃ p,e=.returned (.tuple #[.pointer p,errN 1])/\Below w.heap.size w w'
 begin_:∀ {w:World} {F:Nat->Prop} {B:Nat} {d:Dk},T w F B d->OkD d->Sm d->(∀ j,F j->j<w.heap.size) →
  Calls Tryz.prog 27 #[.pointer (some ⟨B,0,none⟩)] w fun e w'=>e=.returned (.tuple #[.int .i64 (bgN d),ev (bgF d)])/\T w' (Nw F w w') B (bgD d)/\But F w w'
 get:∀ {w:World} {F:Nat->Prop} {B:Nat} {d:Dk} (i:Int) (k:ByteArray),T w F B d->OkD d->Sm d->(∀ j,F j->j<w.heap.size)->k.size<=maxLen →
  Calls Tryz.prog 140 #[.pointer (some ⟨B,0,none⟩),.int .i64 i,.string k] w fun e w'=>e=.returned (.tuple #[.string (dgS d i k),ev (dgF d i k)])/\T w' (Nw F w w') B (dgD d i k)/\But F w w'
 range:∀ {w:World} {F:Nat->Prop} {B:Nat} {d:Dk} (i:Int) (lo hi:ByteArray),T w F B d->OkD d->Sm d->(∀ j,F j->j<w.heap.size) →
  Calls Tryz.prog 192 #[.pointer (some ⟨B,0,none⟩),.int .i64 i,.string lo,.string hi] w fun e w'=>∃ (q:Option Addr) (cq:Nat) (F':Nat->Prop),e=.returned (.tuple #[.slice q (drS d i lo hi).length cq,ev (drF d i)])/\(drS d i lo hi).length<=cq/\PrIn (fun j=>w.heap.size<=j /\ ¬ F' j) w' q (drS d i lo hi)/\T w' F' B (drD d i lo hi)/\(∀ j,F' j->Nw F w w' j)/\But F w w'
 put:∀ {w:World} {F:Nat->Prop} {B:Nat} {d:Dk} (i:Int) (k v:ByteArray),T w F B d->OkD d->Sm d->(∀ j,F j->j<w.heap.size)->k.size<=maxLen->v.size<=maxLen →
  Calls Tryz.prog 142 #[.pointer (some ⟨B,0,none⟩),.int .i64 i,.string k,.string v] w fun e w'=>e=.returned (ev (dcF d i ⟨k,v,false⟩))/\T w' (Nw F w w') B (dcD d i ⟨k,v,false⟩)/\But F w w'
 drop:∀ {w:World} {F:Nat->Prop} {B:Nat} {d:Dk} (i:Int) (k:ByteArray),T w F B d->OkD d->Sm d->(∀ j,F j->j<w.heap.size)->k.size<=maxLen →
  Calls Tryz.prog 152 #[.pointer (some ⟨B,0,none⟩),.int .i64 i,.string k] w fun e w'=>e=.returned (ev (dcF d i ⟨k,ByteArray.empty,true⟩))/\T w' (Nw F w w') B (dcD d i ⟨k,ByteArray.empty,true⟩)/\But F w w'
 commit:∀ {w:World} {F:Nat->Prop} {B:Nat} {d:Dk} (i:Int),T w F B d->OkD d->Sm d->(∀ j,F j->j<w.heap.size)->Spz d →
  Calls Tryz.prog 30 #[.pointer (some ⟨B,0,none⟩),.int .i64 i] w fun e w'=>e=.returned (.tuple #[.int .i64 (cmN d i),ev (cmF d i)])/\T w' (Nw F w w') B (cmD d i)/\But F w w'
 abort:∀ {w:World} {F:Nat->Prop} {B:Nat} {d:Dk} (i:Int),T w F B d->OkD d->Sm d->(∀ j,F j->j<w.heap.size) →
  Calls Tryz.prog 29 #[.pointer (some ⟨B,0,none⟩),.int .i64 i] w fun e w'=>e=.returned (ev (abF d i))/\T w' (Nw F w w') B (opDel d i)/\But F w w'
 flush:∀ {w:World} {F:Nat->Prop} {B:Nat} {d:Dk},T w F B d->OkD d->Sm d->(∀ j,F j->j<w.heap.size) →
  Calls Tryz.prog 47 #[.pointer (some ⟨B,0,none⟩)] w fun e w'=>e=.returned (ev (flF d))/\T w' (Nw F w w') B (flD d)/\But F w w'
 safe:∀ {w:World} {F:Nat->Prop} {B:Nat} {d:Dk},T w F B d->OkD d->Sm d->Calls Tryz.prog 46 #[.pointer (some ⟨B,0,none⟩)] w fun e w'=>e=.returned (.int .i64 (sfN d))/\Below w.heap.size w w'
 top:∀ {w:World} {F:Nat->Prop} {B:Nat} {d:Dk},T w F B d->OkD d->Sm d->Calls Tryz.prog 56 #[.pointer (some ⟨B,0,none⟩)] w fun e w'=>e=.returned (.int .i64 d.last)/\Below w.heap.size w w'
 fail:∀ {w:World} {F:Nat->Prop} {B:Nat} {d:Dk} (n:Int),-9223372036854775808<=n->n<=9223372036854775807->T w F B d->OkD d->Sm d->(∀ j,F j->j<w.heap.size) →
  Calls Tryz.prog 48 #[.pointer (some ⟨B,0,none⟩),.int .i64 n] w fun e w'=>e=.returned (.tuple #[])/\T w' (Nw F w w') B (fdD d n)/\But F w w'
 crash:∀ {w:World} {F:Nat->Prop} {B:Nat} {d:Dk} (n:Int),-9223372036854775808<=n->n<=9223372036854775807->T w F B d->OkD d->Sm d->(∀ j,F j->j<w.heap.size) →
  Calls Tryz.prog 49 #[.pointer (some ⟨B,0,none⟩),.int .i64 n] w fun e w'=>e=.returned (.tuple #[])/\T w' (Nw F w w') B (cdD d n)/\But F w w'
 all:∀ {w:World} {F:Nat->Prop} {B:Nat} {d:Dk},T w F B d->OkD d->Sm d->Calls Tryz.prog 34 #[.pointer (some ⟨B,0,none⟩)] w fun e w'=>∃ (q:Option Addr) (cq:Nat),e=.returned (.slice q (allP d).length cq)/\(allP d).length<=cq/\PrIn (fun j=>w.heap.size<=j) w' q (allP d)/\Below w.heap.size w w'
theorem DFace.step {T:Td} (V:DFace T) {w w':World} {F:Nat->Prop} {B:Nat} {d:Dk} (h:T w F B d) (hb:Below w.heap.size w w'):T w' F B d:=V.but (E:=fun _=>False) h (.below hb) (fun _ _ _=>id)
end Go.Proofs.YtmghmpclmphccaaGreatDoor
namespace Go.Proofs.YtmghmpclmphccaaGreatDoor
open Go.RowKit Vs
structure Dp (k:Nat) (d:Dk):Prop where
 ok:OkD d
 wl:wt d<=k
 ids:d.ids<=k
 spz:Spz d
theorem Dp.sm {k:Nat} {d:Dk} (h:Dp k d) (hk:k<=900):Sm d:=⟨by have:=h.wl;omega,by have:=h.ids;omega⟩
theorem Dp.new {room:Int} (h0:0<=room) (h1:room<=100000):Dp 0 (dk0 room):=⟨OkD.new h0 h1,by simp[wt,dk0,lg0,wtL,wtO],by simp[dk0],fun o ho=>by simp[dk0] at ho⟩
theorem Dp.more {k:Nat} {d:Dk} (h:Dp k d):Dp (k+1) d:=⟨h.ok,by have:=h.wl;omega,by have:=h.ids;omega,h.spz⟩
theorem Dp.bg {k:Nat} {d:Dk} (h:Dp k d):Dp (k+1) (bgD d):=by
 obtain⟨h1,h2,_⟩:=wt_bg d
 refine⟨h.ok.bg,by have:=h.wl;omega,by have:=h.ids;omega,fun o ho=>?_⟩
 unfold bgD at ho
 split at ho
 ·rcases List.mem_append.1 ho with ho|ho
  ·exact h.spz o ho
  ·rw[List.mem_singleton.1 ho];intro s hs;simp at hs
 ·exact h.spz o ho
theorem spz_del {d:Dk} (h:Spz d) (i:Int):Spz (opDel d i):=fun o ho=>h o (memF ho)
theorem Dp.cm {k:Nat} {d:Dk} (h:Dp k d) (i:Int):Dp (k+1) (cmD d i):=by
 have hd:=spz_del h.spz i
 refine⟨h.ok.cm i,?_,by rw[cm_ids];have:=h.ids;omega,?_⟩
 ·have:=h.wl
  rcases cm_cases h.ok i with ⟨_,_,_,h1,_⟩|⟨_,_,_,_,_,h1,_⟩ <;> omega
 ·unfold cmD
  cases e:opI d i with
  | none=>exact h.spz
  | some o=>
   simp only
   split
   ·exact hd
   ·split
    ·exact hd
    ·split
     ·exact hd
     ·exact hd
theorem Dp.del {k:Nat} {d:Dk} (h:Dp k d) (i:Int):Dp (k+1) (opDel d i):=by
 refine⟨h.ok.del i,?_,by have:=h.ids;show d.ids<=_;omega,spz_del h.spz i⟩
 have:=h.wl
 have h1:=wtO_filter d.op (fun o => !decide (o.id=i))
 unfold wt at this
 show wtL d.lg.ls+wtO (d.op.filter (fun o => !decide (o.id=i)))<=_
 omega
theorem fold_len {α : Type} (f : α -> Pr):∀ (l:List α) (r:List Pr),(l.foldl (fun r x=>insP r (f x)) r).length=r.length+l.length
 | [],r=>by simp
 | x :: l,r=>by rw[List.foldl_cons,fold_len f l,len_insP,List.length_cons];omega
theorem allP_len (d:Dk):(allP d).length<=d.vs.length:=by
 have h:=fold_len (fun x:Ver=>(x.k,x.v)) (d.vs.filter (allV d.vs d.last)) []
 have h2:(d.vs.filter (allV d.vs d.last)).length<=d.vs.length:=List.length_filter_le _ _
 unfold allP
 simp only [List.length_nil] at h
 omega
theorem own_wt:∀ {l:List Ox} {o:Ox},o∈l->o.own.length<=wtO l
 | x :: r,o,h=>by
  have e:wtO (x :: r)=x.own.length+wtO r:=by simp[wtO]
  rcases List.mem_cons.1 h with rfl|h
  ·omega
  ·have:=own_wt h;omega
theorem drS_len {d:Dk} (ok:OkD d) (i:Int) (lo hi:ByteArray):(drS d i lo hi).length<=wt d:=by
 unfold drS
 cases e:opI d i with
 | none=>simp
 | some o=>
  obtain⟨h1,_⟩:=opI_some e
  simp only
  split
  ·simp
  ·have h:=fold_len (fun c:Chg=>(c.k,c.v)) (o.own.filter (fun c => !c.g&&btw lo hi c.k)) ((vrng d.vs lo hi o.sees).filter (fun p=>(ownC o.own p.1).isNone))
   have h2:(o.own.filter (fun c => !c.g&&btw lo hi c.k)).length<=o.own.length:=List.length_filter_le _ _
   have h3:((vrng d.vs lo hi o.sees).filter (fun p=>(ownC o.own p.1).isNone)).length<=(vrng d.vs lo hi o.sees).length:=List.length_filter_le _ _
   have h4:=vrng_len d.vs lo hi o.sees
   have h5:=ok.len
   have h6:=own_wt h1
   unfold rngO wt
   omega
end Go.Proofs.YtmghmpclmphccaaGreatDoor
namespace Vs
def ptL (l:List Ver) (top:Int) (x:Ver):List Ver:=if ptF x top=0 then vput l x else l
def ptT (top:Int) (x:Ver):Int:=if ptF x top=0 then x.n else top
end Vs
namespace Go.Proofs.YtmghmpclmphccaaGreatDoor
open Go.RowKit
abbrev Tb:=World->(Nat->Prop)->Nat->List Vs.Ver->Int->Prop
end Go.Proofs.YtmghmpclmphccaaGreatDoor
namespace Vs
theorem drop_ch {l:List Chg} {k:Nat} {x:Chg} (hx:l[k]? = some x):l.drop k=x :: l.drop (k+1):=by
 obtain⟨h,e⟩:=List.getElem?_eq_some_iff.1 hx
 rw[List.drop_eq_getElem_cons h,e]
theorem chsome {α : Type} {l:List α} {k:Nat} (h:k<l.length):∃ x,l[k]? = some x:=⟨l[k],List.getElem?_eq_getElem h⟩
end Vs
namespace Go.Proofs.YtmghmpclmphccaaGreatDoor
open Go.RowKit
end Go.Proofs.YtmghmpclmphccaaGreatDoor
namespace Go.Proofs.YtmghmpclmphccaaGreatDoor
open Go.RowKit Vs
def reO (o:Ox) (i s:Int):Ox:={ o with id:=i,sees:=s }
def Agr (vs:List Ver) (a:Int) (ws:List Ver) (b:Int) (o:Ox):Prop:=(∀ k∈o.keys,vget vs k a=vget ws k b) /\ ∀ s∈o.spans,∀ k,btw s.1 s.2 k=true->vget vs k a=vget ws k b
theorem Agr.less {vs ws:List Ver} {a b:Int} {o o':Ox} (h:Agr vs a ws b o') (hk:∃ ks,o'.keys=o.keys++ks) (hs:∃ ss,o'.spans=o.spans++ss):Agr vs a ws b o:=by
 obtain⟨ks,hk⟩:=hk
 obtain⟨ss,hs⟩:=hs
 exact⟨fun k m=>h.1 k (by rw[hk];exact List.mem_append.2 (.inl m)),fun s m=>h.2 s (by rw[hs];exact List.mem_append.2 (.inl m))⟩
end Go.Proofs.YtmghmpclmphccaaGreatDoor
namespace Go.Proofs.YtmghmpclmphccaaGreatDoor
open Go.RowKit Vs
theorem tabF_append:∀ (n:Int) (ls ms:List (List Chg)),tabF n (ls++ms)=tabF n ls++tabF (n+ls.length) ms
 | n,[],ms=>by simp[tabF]
 | n,l :: r,ms=>by
  rw[List.cons_append,tabF,tabF_append,tabF,List.append_assoc,List.length_cons,show n+1+(r.length:Int)=n+((r.length+1:Nat):Int) from by omega]
theorem tab_take {ls:List (List Chg)} {b:Nat} (hb:b<=ls.length):∃ m,tab ls=tab (ls.take b)++m /\ ∀ x∈m,(b:Int)<x.n:=by
 refine⟨tabF (1+(ls.take b).length) (ls.drop b),?_,fun x hx=>?_⟩
 ·show tabF 1 ls=tabF 1 (ls.take b)++_
  rw[<- tabF_append,List.take_append_drop]
 ·obtain⟨i,l,c,_,_,rfl⟩:=tabF_mem hx
  show (b:Int)<1+((ls.take b).length:Int)+i
  rw[List.length_take,Nat.min_eq_left hb];omega
theorem take_get {ls:List (List Chg)} {b:Nat} (hb:b<=ls.length) {a:Int} (ha:a<=b) (k:ByteArray):vget (tab ls) k a=vget (tab (ls.take b)) k a:=by
 obtain⟨m,e,h⟩:=tab_take hb
 rw[e];exact vget_app (fun x hx=>by have:=h x hx;omega)
theorem grow_get {ls:List (List Chg)} (l:List Chg) {a:Int} (ha:a<=ls.length) (k:ByteArray):vget (tab ls) k a=vget (tab (ls ++ [l])) k a:=by
 rw[take_get (ls:=ls ++ [l]) (b:=ls.length) (by simp) ha,List.take_left]
theorem vget_calm {vs:List Ver} {k:ByteArray} {s b:Int} (hs:s<=b) (h:∀ x∈vs,x.k=k->x.n<=s):vget vs k s=vget vs k b:=by
 unfold vget see
 rw[show vs.filter (hit k s)=vs.filter (hit k b) from List.filter_congr (fun x hx=>by
  unfold hit
  by_cases c:x.k=k
  ·have:=h x hx c
   rw[decide_eq_true this,decide_eq_true (show x.n<=b by omega)]
  ·rw[decide_eq_false c];rfl)]
theorem agr_calm {vs:List Ver} {o:Ox} (hc:clash vs o=false) {b:Int} (hb:o.sees<=b):Agr vs o.sees vs b o:=by
 unfold clash at hc
 rw[Bool.or_eq_false_iff,Bool.or_eq_false_iff,List.any_eq_false,List.any_eq_false,List.any_eq_false] at hc
 obtain⟨⟨h1,_⟩,h3⟩:=hc
 refine⟨fun k hk=>vget_calm hb (fun x hx e=>?_),fun s hs k hk=>vget_calm hb (fun x hx e=>?_)⟩
 ·have h:=h1 k hk
  apply Decidable.byContradiction
  intro hlt
  refine h (List.any_eq_true.2 ⟨x,hx,?_⟩)
  rw[Bool.and_eq_true,decide_eq_true_eq,decide_eq_true_eq]
  exact⟨e,by omega⟩
 ·have h:=h3 s hs
  apply Decidable.byContradiction
  intro hlt
  refine h (List.any_eq_true.2 ⟨x,hx,?_⟩)
  rw[Bool.and_eq_true,decide_eq_true_eq]
  exact⟨by rw[e];exact hk,by omega⟩
theorem ox0_ris (i s:Int):risC (ox0 i s).own:=List.Pairwise.nil
end Go.Proofs.YtmghmpclmphccaaGreatDoor
namespace Go.Proofs.YtmghmpclmphccaaGreatDoor
open Go.RowKit Vs
theorem opSet_self {d:Dk} (h:d.op.Pairwise (fun a b=>a.id<b.id)) {o:Ox} (ho:o∈d.op):opSet d o=d:=by
 unfold opSet
 have:d.op.map (fun q=>if q.id=o.id then o else q)=d.op:=by
  conv=>rhs;rw[<- List.map_id d.op]
  apply List.map_congr_left
  intro q hq
  show (if q.id=o.id then o else q)=q
  split
  ·rename_i e;exact ids_once h ho hq e.symm
  ·rfl
 rw[this]
theorem opSet_at {l:List Ox} (h:l.Pairwise (fun a b=>a.id<b.id)) {j:Nat} {o o':Ox} (hj:l[j]? = some o) (e:o'.id=o.id):l.map (fun q=>if q.id=o'.id then o' else q)=l.set j o':=by
 apply List.ext_getElem?
 intro i
 rw[List.getElem?_map,List.getElem?_set]
 have hjl:=(List.getElem?_eq_some_iff.1 hj).1
 by_cases c:j=i
 ·subst c
  rw[if_pos rfl,if_pos hjl,hj]
  show some (if o.id=o'.id then o' else o)=_
  rw[if_pos e.symm]
 ·rw[if_neg c]
  cases hi:l[i]? with
  | none=>rfl
  | some q=>
   have hil:=(List.getElem?_eq_some_iff.1 hi).1
   have hne:q.id≠o'.id:=by
    intro e2
    have e3:q.id=o.id:=e2.trans e
    obtain⟨a1,a2⟩:=List.getElem?_eq_some_iff.1 hj
    obtain⟨b1,b2⟩:=List.getElem?_eq_some_iff.1 hi
    rcases Nat.lt_or_gt_of_ne c with c|c
    ·have:=List.pairwise_iff_getElem.1 h j i a1 b1 c
     rw[a2,b2] at this;omega
    ·have:=List.pairwise_iff_getElem.1 h i j b1 a1 c
     rw[a2,b2] at this;omega
   show some (if q.id=o'.id then o' else q)=_
   rw[if_neg hne]
theorem opDel_at:∀ {l:List Ox} {j:Nat} {o:Ox},l.Pairwise (fun a b=>a.id<b.id)->l[j]? = some o->l.filter (fun q => !decide (q.id=o.id))=l.eraseIdx j
 | x :: r,0,o,h,hj=>by
  obtain⟨h1,h2⟩:=List.pairwise_cons.1 h
  have e:x=o:=by simpa using hj
  subst e
  rw[List.filter_cons_of_neg (by simp),List.eraseIdx_cons_zero]
  apply List.filter_eq_self.2
  intro q hq
  have:=h1 q hq
  simp;omega
 | x :: r,j+1,o,h,hj=>by
  obtain⟨h1,h2⟩:=List.pairwise_cons.1 h
  have hj':r[j]? = some o:=by simpa using hj
  have:=h1 o (List.mem_of_getElem? hj')
  rw[List.filter_cons_of_pos (by simp;omega),List.eraseIdx_cons_succ,opDel_at h2 hj']
end Go.Proofs.YtmghmpclmphccaaGreatDoor
namespace Go.Proofs.YtmghmpclmphccaaGreatDoor
open Go.RowKit Vs
theorem range_more (n:Nat):(List.range (n+1)).map (fun (i:Nat)=>(i:Int)+1)=(List.range n).map (fun (i:Nat)=>(i:Int)+1) ++ [(n:Int)+1]:=by
 rw[List.range_succ,List.map_append];rfl
end Go.Proofs.YtmghmpclmphccaaGreatDoor
namespace Go.Proofs.YtmghmpclmphccaaGreatDoor
open Go.RowKit Vs
structure Al (ls:List (List Chg)) (m:Nat) (a:Dk):Prop where
 ok:OkD a
 up:UpL a.lg
 vs:a.vs=tab a.lg.ls
 le:a.lg.ls=ls.take m
 ml:m<=ls.length
 op:a.op=[]
theorem Al.new (ls:List (List Chg)):Al ls 0 (dk0 100000):=⟨OkD.new (by decide) (by decide),UpL.new,rfl,rfl,Nat.zero_le _,rfl⟩
theorem Al.last {ls:List (List Chg)} {m:Nat} {a:Dk} (h:Al ls m a):a.last=m:=by
 rw[h.ok.last,h.le,List.length_take,Nat.min_eq_left h.ml]
def aD (a:Dk) (o:Ox):Dk:={ a with ids:=a.ids+1,op:=[o] }
theorem Al.bg {ls:List (List Chg)} {m:Nat} {a:Dk} (h:Al ls m a):bgF a=0/\bgN a=a.ids+1/\bgD a=aD a (ox0 (a.ids+1) m):=by
 have h1:a.op.length<8:=by rw[h.op];decide
 refine⟨bg_ok h1 h.up,bgN_ok h1 h.up,?_⟩
 have e:ox0 (a.ids+1) a.last=ox0 (a.ids+1) m:=by rw[h.last]
 rw[bgD_ok h1 h.up,h.op,e];rfl
theorem Al.ok0 {ls:List (List Chg)} {m:Nat} {a:Dk} (h:Al ls m a):OkD (aD a (ox0 (a.ids+1) m)):=by
 rw[<- h.bg.2.2];exact h.ok.bg
theorem aD_at {a:Dk} {o:Ox} (e:o.id=a.ids+1):opI (aD a o) (a.ids+1)=some o:=by simp[opI,aD,e]
theorem aD_set {a:Dk} {o o':Ox} (e:o.id=a.ids+1) (e':o'.id=a.ids+1):opSet (aD a o) o'=aD a o':=by simp[opSet,aD,e,e']
theorem aD_del {a:Dk} {o:Ox} (e:o.id=a.ids+1):opDel (aD a o) (a.ids+1)={ a with ids:=a.ids+1,op:=[] }:=by simp[opDel,aD,e]
end Go.Proofs.YtmghmpclmphccaaGreatDoor
namespace Go.Proofs.YtmghmpclmphccaaGreatDoor
open Go.RowKit Vs
abbrev Kn (K:Nat->Prop) (w w':World):Nat->Prop:=fun j=>K j \/ (w.heap.size<=j/\j<w'.heap.size)
end Go.Proofs.YtmghmpclmphccaaGreatDoor
namespace Vs
theorem drop_pr {l:List Pr} {k:Nat} {x:Pr} (hx:l[k]? = some x):l.drop k=x :: l.drop (k+1):=by
 obtain⟨h,e⟩:=List.getElem?_eq_some_iff.1 hx
 rw[List.drop_eq_getElem_cons h,e]
theorem getsome' {α : Type} {l:List α} {k:Nat} (h:k<l.length):∃ x,l[k]? = some x:=⟨l[k],List.getElem?_eq_getElem h⟩
end Vs
namespace Go.Proofs.YtmghmpclmphccaaGreatDoor
open Go.RowKit
theorem samePairs (r s:List Vs.Pr) (p q:Option Addr) (cp cq:Nat) (w:World) (hr:r.length<=1000000) (hp:PrAt w p r) (hq:PrAt w q s) :
  Calls Tryz.prog 14 #[.slice p r.length cp,.slice q s.length cq] w fun e w'=>e=.returned (.bool (decide (r=s)))/\Below w.heap.size w w':=by
 by_cases hlen:r.length=s.length
 ·obtain⟨R,hR⟩:∃ R,R=decide (r=s):=⟨_,rfl⟩
  rw[<- hR]
  replace hR:Hid (R=decide (r.drop 0=s.drop 0)):=hR
  have hne:((r.length:Int) != (s.length:Int))=false:=by simp[hlen]
  have HL:Hid (r.length=s.length):=hlen
  clear hlen
  go_enter Tryz.func14,Tryz.ntmps14
  go_wp2
  go_loopw [5] (fun i wr=>∃ (k:Nat),k<=r.length/\i=.int .i64 k/\Hid (R=decide (r.drop k=s.drop k))/\Below w.heap.size w wr) (fun i _=>r.length - (intOf i).toNat)
  case atStart=>exact⟨0,by omega,rfl,hR,below_self _⟩
  case round=>
   obtain⟨k,hk,rfl,hM,hb⟩:=hrel
   by_cases hlt:k<r.length
   ·have hlt':(k:Int)<(r.length:Int):=by omega
    have hls:k<s.length:=by rw[<- HL.out];exact hlt
    have hls':(k:Int)<(s.length:Int):=by omega
    obtain⟨b1,o1,rfl,hb1,hc1⟩:=hp (by omega)
    obtain⟨b2,o2,rfl,hb2,hc2⟩:=hq (by omega)
    obtain⟨x,hx⟩:=Vs.getsome' hlt
    obtain⟨y,hy⟩:=Vs.getsome' hls
    obtain⟨d0,d1⟩:=hc1 k x hx
    obtain⟨f0,f1⟩:=hc2 k y hy
    have e0:=(hb.cell (p:=⟨b1,o1+k*2,none⟩) hb1).trans d0
    have e1:=(hb.cell (p:=⟨b1,o1+k*2+1,none⟩) hb1).trans d1
    have e2:=(hb.cell (p:=⟨b2,o2+k*2,none⟩) hb2).trans f0
    have e3:=(hb.cell (p:=⟨b2,o2+k*2+1,none⟩) hb2).trans f1
    have hD:Hid (R=decide (x=y/\r.drop (k+1)=s.drop (k+1))):=by
     show _=_
     rw[hM.out,Vs.drop_pr hx,Vs.drop_pr hy]
     simp
    clear hM hR hx hy hc1 hc2 d0 d1 f0 f1 hp hq hls HL
    by_cases h1:x.1=y.1
    ·have g1:(x.1.toList==y.1.toList)=true:=by rw[Vs.beq_str];simpa using h1
     by_cases h2:x.2=y.2
     ·have g2:(x.2.toList==y.2.toList)=true:=by rw[Vs.beq_str];simpa using h2
      have hM2:Hid (R=decide (r.drop (k+1)=s.drop (k+1))):=by
       show _=_
       rw[hD.out];simp[Prod.ext h1 h2]
      clear hD h1 h2
      go_wp2
      go_quiet (fail)
      go_wp2
      exact⟨⟨k+1,by omega,by go_num,hM2,below_drewN hb _⟩,by simp[intOf];omega⟩
     ·have g2:(x.2.toList==y.2.toList)=false:=by rw[Vs.beq_str];simpa using h2
      have hM2:Hid (R=false):=by
       show _=_
       have:¬ x=y:=fun e=>h2 (by rw[e])
       rw[hD.out];simp[this]
      clear hD h1 h2
      go_wp2
      go_quiet (fail)
      go_wp2
      go_ret
      exact⟨by rw[hM2.out];rfl,below_drewN hb _⟩
    ·have g1:(x.1.toList==y.1.toList)=false:=by rw[Vs.beq_str];simpa using h1
     have hM2:Hid (R=false):=by
      show _=_
      have:¬ x=y:=fun e=>h1 (by rw[e])
      rw[hD.out];simp[this]
     clear hD h1
     go_wp2
     go_quiet (fail)
     go_wp2
     go_ret
     exact⟨by rw[hM2.out];rfl,below_drewN hb _⟩
   ·have hE:Hid (R=true):=by
     show _=_
     rw[hM.out,List.drop_eq_nil_of_le (by omega),List.drop_eq_nil_of_le (by rw[<- HL.out];omega)];simp
    clear hM hR hp hq HL
    go_wp2
    go_ret
    exact⟨by rw[hE.out];rfl,hb⟩
 ·have hE:decide (r=s)=false:=by
   have:¬ r=s:=fun e=>hlen (by rw[e])
   simpa using this
  have hne:((r.length:Int) != (s.length:Int))=true:=by simp;omega
  rw[hE]
  clear hE hlen
  go_enter Tryz.func14,Tryz.ntmps14
  go_wp2
  go_ret
  exact⟨rfl,below_self _⟩
end Go.Proofs.YtmghmpclmphccaaGreatDoor
