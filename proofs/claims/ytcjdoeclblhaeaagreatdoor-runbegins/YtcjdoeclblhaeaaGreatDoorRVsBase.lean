/- -/
import Derived.Test.YtcjdoeclblhaeaaGreatDoorRAdBase
import Derived.Test.YtcjdoeclblhaeaaGreatDoorRVsMath
namespace Go.Proofs.YtcjdoeclblhaeaaGreatDoor
open Go.RowKit
def PrC (w:World) (b off:Nat) (l:List Vs.Pr):Prop:=
 ∀ i x,l[i]? = some x->w.cell? ⟨b,off+i*2,none⟩=some (.string x.1)/\w.cell? ⟨b,off+i*2+1,none⟩=some (.string x.2)
def PrAt (w:World) (p:Option Addr) (l:List Vs.Pr):Prop:=
 0<l.length -> ∃ b off,p=some ⟨b,off,none⟩/\b<w.heap.size/\PrC w b off l
theorem PrAt.step {w w':World} {p:Option Addr} {l:List Vs.Pr} (h:PrAt w p l) (hb:Below w.heap.size w w'):PrAt w' p l:=by
 intro hl
 obtain⟨b,off,rfl,hlt,hc⟩:=h hl
 refine⟨b,off,rfl,Nat.lt_of_lt_of_le hlt hb.size,fun i x hx=>?_⟩
 rw[hb.cell (p:=⟨b,off+i*2,none⟩) hlt,hb.cell (p:=⟨b,off+i*2+1,none⟩) hlt]
 exact hc i x hx
def prV (l:List Vs.Pr):List Value:=l.flatMap fun x=>[.string x.1,.string x.2]
theorem prV_len:∀ l:List Vs.Pr,(prV l).length=l.length*2
 | []=>rfl
 | s :: r=>by show ((prV r).length+1+1)=_;rw[prV_len r,List.length_cons];omega
theorem prV_app (l m:List Vs.Pr):prV (l++m)=prV l++prV m:=by simp[prV]
theorem prV_at:∀ (l:List Vs.Pr) (i:Nat) (x:Vs.Pr),l[i]? = some x->(prV l)[i*2]? = some (.string x.1)/\(prV l)[i*2+1]? = some (.string x.2)
 | s :: r,0,x,h=>by cases (Option.some.inj h);exact⟨rfl,rfl⟩
 | s :: r,i+1,x,h=>by
  have:=prV_at r i x (by simpa using h)
  rw[show (i+1)*2=i*2+2 from by omega,show i*2+2+1=i*2+1+2 from by omega]
  exact this
theorem prAt_own {w:World} {B n cap e:Nat} {p:Option Addr} {l:List Vs.Pr} (h:w.ownsRow B e 2 (.slice p n cap) l.length (prV l)):n=l.length/\PrAt w p l:=by
 rcases h.2 with ⟨h0,h1⟩|⟨g,cap',cur,h0,_,hg,_,_,_,_⟩
 ·cases h0;exact⟨h1.symm,fun hp=>by omega⟩
 ·cases h0
  refine⟨rfl,fun _=>⟨g,0,rfl,(Array.getElem?_eq_some_iff.1 hg).1,fun i x hx=>?_⟩⟩
  have hi:=(List.getElem?_eq_some_iff.1 hx).1
  have:=prV_at l i x hx
  rw[Nat.zero_add,h.cellAt (i*2) (by omega),h.cellAt (i*2+1) (by omega)]
  exact this
theorem own_below {w w':World} {B e size n:Nat} {v:Value} {xs:List Value} (h:w.ownsRow B e size v n xs) (hb:Below w.heap.size w w'):w'.ownsRow B e size v n xs:=by
 refine⟨h.1,?_⟩
 rcases h.2 with hn|⟨g,cap,cur,rfl,h1,hg,rest⟩
 ·exact .inl hn
 ·exact .inr ⟨g,cap,cur,rfl,h1,(hb.block g (Array.getElem?_eq_some_iff.1 hg).1).trans hg,rest⟩
theorem own_form {w:World} {B e size n:Nat} {v:Value} {xs:List Value} (h:w.ownsRow B e size v n xs):∃ p cp,v=.slice p n cp:=by
 rcases h.2 with ⟨rfl,rfl⟩|⟨g,cp,_,rfl,_⟩
 ·exact⟨_,_,rfl⟩
 ·exact⟨_,_,rfl⟩
open Vs in
theorem leq_bl (lo k:ByteArray):(Op.bytesLess lo.toList k.toList || lo.toList==k.toList) = !bl k lo:=by
 rw[beq_str]
 cases h:bl k lo
 ·by_cases e:lo=k
  ·simp[e]
  ·have:bl lo k=true:=by
    cases g:bl lo k
    ·exact absurd (bl_tri g h) e
    ·rfl
   rw[bl] at this
   simp[this]
 ·have h1:=bl_asym h
  have h2:lo≠k:=fun e=>by rw[e,bl_irr] at h;cases h
  rw[bl] at h1
  simp[h1,h2]
end Go.Proofs.YtcjdoeclblhaeaaGreatDoor
namespace Go.Proofs.YtcjdoeclblhaeaaGreatDoor
open Go.RowKit
def PrIn (G:Nat->Prop) (w:World) (p:Option Addr) (l:List Vs.Pr):Prop:=
 0<l.length -> ∃ b off,p=some ⟨b,off,none⟩/\b<w.heap.size/\G b/\PrC w b off l
theorem PrIn.at {G:Nat->Prop} {w:World} {p:Option Addr} {l:List Vs.Pr} (h:PrIn G w p l):PrAt w p l:=fun hl=>by
 obtain⟨b,off,h1,h2,_,h3⟩:=h hl
 exact⟨b,off,h1,h2,h3⟩
end Go.Proofs.YtcjdoeclblhaeaaGreatDoor
namespace Go.Proofs.YtcjdoeclblhaeaaGreatDoor
open Go.RowKit
abbrev Nw (F:Nat->Prop) (w w':World):Nat->Prop:=fun j=>F j \/ (w.heap.size<=j/\j<w'.heap.size)
end Go.Proofs.YtcjdoeclblhaeaaGreatDoor
namespace Vs
def ptL (l:List Ver) (top:Int) (x:Ver):List Ver:=if ptF x top=0 then vput l x else l
def ptT (top:Int) (x:Ver):Int:=if ptF x top=0 then x.n else top
end Vs
namespace Go.Proofs.YtcjdoeclblhaeaaGreatDoor
open Go.RowKit
abbrev Tb:=World->(Nat->Prop)->Nat->List Vs.Ver->Int->Prop
end Go.Proofs.YtcjdoeclblhaeaaGreatDoor
namespace Go.Proofs.YtcjdoeclblhaeaaGreatDoor
open Go.RowKit Vs
abbrev Td:=World->(Nat->Prop)->Nat->Dk->Prop
structure Sm (d:Dk):Prop where
 wt:wt d<=900
 ids:d.ids<=100000
theorem Sm.log {d:Dk} (h:Sm d):wtL d.lg.ls<=1000:=by
 have:=h.wt
 unfold Vs.wt at this
 omega
theorem Sm.vs {d:Dk} (h:Sm d) (ok:OkD d):d.vs.length<=1000:=Nat.le_trans ok.len h.log
theorem last_max {d:Dk} (ok:OkD d):d.last<=1000000:=by
 have h1:=ok.last
 have h2:=ok.lg.few.1
 omega
theorem sees_at {d:Dk} (ok:OkD d) {o:Ox} (ho:o∈d.op):atF o.sees=0:=by
 have h1:=(ok.op o ho).s0
 have h2:=(ok.op o ho).s1
 have h3:=last_max ok
 exact if_neg (by omega)
def Spz (d:Dk):Prop:=∀ o∈d.op,∀ s∈o.spans,s.1.size<9223372036854775807
structure DFace (T:World->(Nat->Prop)->Nat->Dk->Prop):Prop where
 but:∀ {w w':World} {E F:Nat->Prop} {B:Nat} {d:Dk},T w F B d->But E w w'->(∀ j,j<w.heap.size->F j -> ¬ E j)->T w' F B d
 newOk:∀ (w:World) {room:Int},0<=room->room<=100000->Calls Tryz.prog 11 #[.int .i64 room] w fun e w'=>∃ B,e=.returned (.tuple #[.pointer (some ⟨B,0,none⟩),.nilIface])/\T w' (fun j=>w.heap.size<=j/\j<w'.heap.size) B (dk0 room)/\Below w.heap.size w w'
 newNo:∀ (w:World) {room:Int},¬ (0<=room/\room<=100000)->Calls Tryz.prog 11 #[.int .i64 room] w fun e w'=>∃ p,e=.returned (.tuple #[.pointer p,errN 1])/\Below w.heap.size w w'
 begin_:∀ {w:World} {F:Nat->Prop} {B:Nat} {d:Dk},T w F B d->OkD d->Sm d->(∀ j,F j->j<w.heap.size) →
  Calls Tryz.prog 72 #[.pointer (some ⟨B,0,none⟩)] w fun e w'=>e=.returned (.tuple #[.int .i64 (bgN d),ev (bgF d)])/\T w' (Nw F w w') B (bgD d)/\But F w w'
 get:∀ {w:World} {F:Nat->Prop} {B:Nat} {d:Dk} (i:Int) (k:ByteArray),T w F B d->OkD d->Sm d->(∀ j,F j->j<w.heap.size)->k.size<=maxLen →
  Calls Tryz.prog 202 #[.pointer (some ⟨B,0,none⟩),.int .i64 i,.string k] w fun e w'=>e=.returned (.tuple #[.string (dgS d i k),ev (dgF d i k)])/\T w' (Nw F w w') B (dgD d i k)/\But F w w'
 range:∀ {w:World} {F:Nat->Prop} {B:Nat} {d:Dk} (i:Int) (lo hi:ByteArray),T w F B d->OkD d->Sm d->(∀ j,F j->j<w.heap.size) →
  Calls Tryz.prog 253 #[.pointer (some ⟨B,0,none⟩),.int .i64 i,.string lo,.string hi] w fun e w'=>∃ (q:Option Addr) (cq:Nat) (F':Nat->Prop),e=.returned (.tuple #[.slice q (drS d i lo hi).length cq,ev (drF d i)])/\(drS d i lo hi).length<=cq/\PrIn (fun j=>w.heap.size<=j /\ ¬ F' j) w' q (drS d i lo hi)/\T w' F' B (drD d i lo hi)/\(∀ j,F' j->Nw F w w' j)/\But F w w'
 put:∀ {w:World} {F:Nat->Prop} {B:Nat} {d:Dk} (i:Int) (k v:ByteArray),T w F B d->OkD d->Sm d->(∀ j,F j->j<w.heap.size)->k.size<=maxLen->v.size<=maxLen →
  Calls Tryz.prog 204 #[.pointer (some ⟨B,0,none⟩),.int .i64 i,.string k,.string v] w fun e w'=>e=.returned (ev (dcF d i ⟨k,v,false⟩))/\T w' (Nw F w w') B (dcD d i ⟨k,v,false⟩)/\But F w w'
 drop:∀ {w:World} {F:Nat->Prop} {B:Nat} {d:Dk} (i:Int) (k:ByteArray),T w F B d->OkD d->Sm d->(∀ j,F j->j<w.heap.size)->k.size<=maxLen →
  Calls Tryz.prog 214 #[.pointer (some ⟨B,0,none⟩),.int .i64 i,.string k] w fun e w'=>e=.returned (ev (dcF d i ⟨k,ByteArray.empty,true⟩))/\T w' (Nw F w w') B (dcD d i ⟨k,ByteArray.empty,true⟩)/\But F w w'
 commit:∀ {w:World} {F:Nat->Prop} {B:Nat} {d:Dk} (i:Int),T w F B d->OkD d->Sm d->(∀ j,F j->j<w.heap.size)->Spz d →
  Calls Tryz.prog 75 #[.pointer (some ⟨B,0,none⟩),.int .i64 i] w fun e w'=>e=.returned (.tuple #[.int .i64 (cmN d i),ev (cmF d i)])/\T w' (Nw F w w') B (cmD d i)/\But F w w'
 abort:∀ {w:World} {F:Nat->Prop} {B:Nat} {d:Dk} (i:Int),T w F B d->OkD d->Sm d->(∀ j,F j->j<w.heap.size) →
  Calls Tryz.prog 74 #[.pointer (some ⟨B,0,none⟩),.int .i64 i] w fun e w'=>e=.returned (ev (abF d i))/\T w' (Nw F w w') B (opDel d i)/\But F w w'
 flush:∀ {w:World} {F:Nat->Prop} {B:Nat} {d:Dk},T w F B d->OkD d->Sm d->(∀ j,F j->j<w.heap.size) →
  Calls Tryz.prog 64 #[.pointer (some ⟨B,0,none⟩)] w fun e w'=>e=.returned (ev (flF d))/\T w' (Nw F w w') B (flD d)/\But F w w'
 safe:∀ {w:World} {F:Nat->Prop} {B:Nat} {d:Dk},T w F B d->OkD d->Sm d->Calls Tryz.prog 66 #[.pointer (some ⟨B,0,none⟩)] w fun e w'=>e=.returned (.int .i64 (sfN d))/\Below w.heap.size w w'
 top:∀ {w:World} {F:Nat->Prop} {B:Nat} {d:Dk},T w F B d->OkD d->Sm d->Calls Tryz.prog 92 #[.pointer (some ⟨B,0,none⟩)] w fun e w'=>e=.returned (.int .i64 d.last)/\Below w.heap.size w w'
 fail:∀ {w:World} {F:Nat->Prop} {B:Nat} {d:Dk} (n:Int),-9223372036854775808<=n->n<=9223372036854775807->T w F B d->OkD d->Sm d->(∀ j,F j->j<w.heap.size) →
  Calls Tryz.prog 79 #[.pointer (some ⟨B,0,none⟩),.int .i64 n] w fun e w'=>e=.returned (.tuple #[])/\T w' (Nw F w w') B (fdD d n)/\But F w w'
 crash:∀ {w:World} {F:Nat->Prop} {B:Nat} {d:Dk} (n:Int),-9223372036854775808<=n->n<=9223372036854775807->T w F B d->OkD d->Sm d->(∀ j,F j->j<w.heap.size) →
  Calls Tryz.prog 76 #[.pointer (some ⟨B,0,none⟩),.int .i64 n] w fun e w'=>e=.returned (.tuple #[])/\T w' (Nw F w w') B (cdD d n)/\But F w w'
 all:∀ {w:World} {F:Nat->Prop} {B:Nat} {d:Dk},T w F B d->OkD d->Sm d->Calls Tryz.prog 69 #[.pointer (some ⟨B,0,none⟩)] w fun e w'=>∃ (q:Option Addr) (cq:Nat),e=.returned (.slice q (allP d).length cq)/\(allP d).length<=cq/\PrIn (fun j=>w.heap.size<=j) w' q (allP d)/\Below w.heap.size w w'
theorem DFace.step {T:Td} (V:DFace T) {w w':World} {F:Nat->Prop} {B:Nat} {d:Dk} (h:T w F B d) (hb:Below w.heap.size w w'):T w' F B d:=V.but (E:=fun _=>False) h (.below hb) (fun _ _ _=>id)
end Go.Proofs.YtcjdoeclblhaeaaGreatDoor
namespace Go.Proofs.YtcjdoeclblhaeaaGreatDoor
open Go.RowKit
def ChC (w:World) (b off:Nat) (l:List Vs.Chg):Prop:=
 ∀ i x,l[i]? = some x->w.cell? ⟨b,off+i*3,none⟩=some (.string x.k)/\w.cell? ⟨b,off+i*3+1,none⟩=some (.string x.v)/\w.cell? ⟨b,off+i*3+2,none⟩=some (.bool x.g)
def ChAt (w:World) (p:Option Addr) (l:List Vs.Chg):Prop:=
 0<l.length -> ∃ b off,p=some ⟨b,off,none⟩/\b<w.heap.size/\ChC w b off l
def chV (l:List Vs.Chg):List Value:=l.flatMap fun x=>[.string x.k,.string x.v,.bool x.g]
theorem chV_app (l m:List Vs.Chg):chV (l++m)=chV l++chV m:=by simp[chV]
theorem chV_at:∀ (l:List Vs.Chg) (i:Nat) (x:Vs.Chg),l[i]? = some x->(chV l)[i*3]? = some (.string x.k)/\(chV l)[i*3+1]? = some (.string x.v)/\(chV l)[i*3+2]? = some (.bool x.g)
 | s :: r,0,x,h=>by cases (Option.some.inj h);exact⟨rfl,rfl,rfl⟩
 | s :: r,i+1,x,h=>by
  have:=chV_at r i x (by simpa using h)
  rw[show (i+1)*3=i*3+3 from by omega,show i*3+3+1=i*3+1+3 from by omega,show i*3+3+2=i*3+2+3 from by omega]
  exact this
theorem chV_one (l:List Vs.Chg):∀ y∈chV l,y.oneCell'=true:=by
 intro y hy
 simp only [chV,List.mem_flatMap] at hy
 obtain⟨s,_,hs⟩:=hy
 simp at hs
 rcases hs with rfl|rfl|rfl <;> rfl
theorem chAt_own {w:World} {B n cap e:Nat} {p:Option Addr} {l:List Vs.Chg} (h:w.ownsRow B e 3 (.slice p n cap) l.length (chV l)):n=l.length/\ChAt w p l:=by
 rcases h.2 with ⟨h0,h1⟩|⟨g,cap',cur,h0,_,hg,_,_,_,_⟩
 ·cases h0;exact⟨h1.symm,fun hp=>by omega⟩
 ·cases h0
  refine⟨rfl,fun _=>⟨g,0,rfl,(Array.getElem?_eq_some_iff.1 hg).1,fun i x hx=>?_⟩⟩
  have hi:=(List.getElem?_eq_some_iff.1 hx).1
  have:=chV_at l i x hx
  rw[Nat.zero_add,h.cellAt (i*3) (by omega),h.cellAt (i*3+1) (by omega),h.cellAt (i*3+2) (by omega)]
  exact this
end Go.Proofs.YtcjdoeclblhaeaaGreatDoor
namespace Vs
theorem drop_ch {l:List Chg} {k:Nat} {x:Chg} (hx:l[k]? = some x):l.drop k=x :: l.drop (k+1):=by
 obtain⟨h,e⟩:=List.getElem?_eq_some_iff.1 hx
 rw[List.drop_eq_getElem_cons h,e]
theorem chsome {α : Type} {l:List α} {k:Nat} (h:k<l.length):∃ x,l[k]? = some x:=⟨l[k],List.getElem?_eq_getElem h⟩
end Vs
namespace Go.Proofs.YtcjdoeclblhaeaaGreatDoor
open Go.RowKit
end Go.Proofs.YtcjdoeclblhaeaaGreatDoor
namespace Go.Proofs.YtcjdoeclblhaeaaGreatDoor
open Go.RowKit
theorem flat_at {α : Type} {enc : α -> List Value} {k:Nat} (hk:∀ x,(enc x).length=k):∀ (l:List α) (j:Nat),j<l.length*k->(l.flatMap enc)[j]? = (l[j / k]?).bind (fun x=>(enc x)[j % k]?)
 | [],j,h=>by simp at h
 | x :: r,j,h=>by
  rw[List.length_cons,Nat.add_mul,Nat.one_mul] at h
  have k0:0<k:=by
   rcases Nat.eq_zero_or_pos k with e|e
   ·subst e;simp at h
   ·exact e
  rw[List.flatMap_cons]
  by_cases c:j<k
  ·rw[List.getElem?_append_left (by rw[hk];exact c),Nat.div_eq_of_lt c,Nat.mod_eq_of_lt c];rfl
  ·rw[List.getElem?_append_right (by rw[hk];omega),hk,flat_at hk r (j - k) (by omega)]
   have e1:j / k=(j - k) / k+1:=by
    rw[<- Nat.add_div_right _ k0,Nat.sub_add_cancel (by omega)]
   have e2:j % k=(j - k) % k:=by
    rw[<- Nat.add_mod_right (j - k) k,Nat.sub_add_cancel (by omega)]
   rw[e1,e2];rfl
theorem flat_len {α : Type} {enc : α -> List Value} {k:Nat} (hk:∀ x,(enc x).length=k):∀ (l:List α),(l.flatMap enc).length=l.length*k
 | []=>by simp
 | x :: r=>by rw[List.flatMap_cons,List.length_append,flat_len hk r,hk,List.length_cons,Nat.add_mul,Nat.one_mul,Nat.add_comm]
end Go.Proofs.YtcjdoeclblhaeaaGreatDoor
namespace Go.Proofs.YtcjdoeclblhaeaaGreatDoor
open Go.RowKit Vs
structure Dp (k:Nat) (d:Dk):Prop where
 ok:OkD d
 wl:wt d<=k
 ids:d.ids<=k
 spz:Spz d
theorem Dp.sm {k:Nat} {d:Dk} (h:Dp k d) (hk:k<=900):Sm d:=⟨by have:=h.wl;omega,by have:=h.ids;omega⟩
theorem Dp.new {room:Int} (h0:0<=room) (h1:room<=100000):Dp 0 (dk0 room):=⟨OkD.new h0 h1,by simp[wt,dk0,lg0,wtL,wtO],by simp[dk0],fun o ho=>by simp[dk0] at ho⟩
theorem Dp.more {k:Nat} {d:Dk} (h:Dp k d):Dp (k+1) d:=⟨h.ok,by have:=h.wl;omega,by have:=h.ids;omega,h.spz⟩
theorem Dp.bg {k:Nat} {d:Dk} (h:Dp k d):Dp (k+1) (bgD d):=by
 obtain⟨h1,h2,_⟩:=wt_bg d
 refine⟨h.ok.bg,by have:=h.wl;omega,by have:=h.ids;omega,fun o ho=>?_⟩
 unfold bgD at ho
 split at ho
 ·rcases List.mem_append.1 ho with ho|ho
  ·exact h.spz o ho
  ·rw[List.mem_singleton.1 ho];intro s hs;simp at hs
 ·exact h.spz o ho
theorem dp_set {k:Nat} {d:Dk} (h:Dp k d) {o o':Ox} (ho:o∈d.op) (e:o'.id=o.id) (e2:o'.own=o.own) (ok:OkD (opSet d o')) (hz:∀ s∈o'.spans,s.1.size<9223372036854775807):Dp (k+1) (opSet d o'):=by
 have key:wtO (opSet d o').op+o.own.length=wtO d.op+o'.own.length:=wtO_set h.ok.ids (o':=o') ho e
 refine⟨ok,?_,by have:=h.ids;show d.ids<=_;omega,fun q hq=>?_⟩
 ·have:=h.wl
  unfold wt at this
  show wtL d.lg.ls+wtO (opSet d o').op<=_
  rw[e2] at key
  omega
 ·obtain⟨y,hy,rfl⟩:=List.mem_map.1 hq
  split
  ·exact hz
  ·exact h.spz y hy
theorem Dp.dg {k:Nat} {d:Dk} (h:Dp k d) (i:Int) (key:ByteArray):Dp (k+1) (dgD d i key):=by
 have ok:=h.ok.dg i key
 unfold dgD at ok ⊢
 cases e:opI d i with
 | none=>exact h.more
 | some o=>
  rw[e] at ok
  simp only at ok ⊢
  obtain⟨h1,h2⟩:=opI_some e
  split
  ·rename_i g1
   rw[if_pos g1] at ok
   split
   ·exact h.more
   ·rename_i g2
    rw[if_neg g2] at ok
    exact dp_set h h1 rfl rfl ok (h.spz o h1)
  ·exact h.more
theorem Dp.dr {k:Nat} {d:Dk} (h:Dp k d) (i:Int) (lo hi:ByteArray) (hlo:lo.size<9223372036854775807):Dp (k+1) (drD d i lo hi):=by
 have ok:=h.ok.dr i lo hi
 unfold drD at ok ⊢
 cases e:opI d i with
 | none=>exact h.more
 | some o=>
  rw[e] at ok
  simp only at ok ⊢
  obtain⟨h1,h2⟩:=opI_some e
  split
  ·exact h.more
  ·rename_i g2
   rw[if_neg g2] at ok
   refine dp_set h h1 rfl rfl ok (fun s hs=>?_)
   rcases List.mem_append.1 hs with hs|hs
   ·exact h.spz o h1 s hs
   ·rw[List.mem_singleton.1 hs];exact hlo
theorem spz_del {d:Dk} (h:Spz d) (i:Int):Spz (opDel d i):=fun o ho=>h o (memF ho)
theorem Dp.cm {k:Nat} {d:Dk} (h:Dp k d) (i:Int):Dp (k+1) (cmD d i):=by
 have hd:=spz_del h.spz i
 refine⟨h.ok.cm i,?_,by rw[cm_ids];have:=h.ids;omega,?_⟩
 ·have:=h.wl
  rcases cm_cases h.ok i with ⟨_,_,_,h1,_⟩|⟨_,_,_,_,_,h1,_⟩ <;> omega
 ·unfold cmD
  cases e:opI d i with
  | none=>exact h.spz
  | some o=>
   simp only
   split
   ·exact hd
   ·split
    ·exact hd
    ·split
     ·exact hd
     ·exact hd
theorem Dp.del {k:Nat} {d:Dk} (h:Dp k d) (i:Int):Dp (k+1) (opDel d i):=by
 refine⟨h.ok.del i,?_,by have:=h.ids;show d.ids<=_;omega,spz_del h.spz i⟩
 have:=h.wl
 have h1:=wtO_filter d.op (fun o => !decide (o.id=i))
 unfold wt at this
 show wtL d.lg.ls+wtO (d.op.filter (fun o => !decide (o.id=i)))<=_
 omega
theorem Dp.fl {k:Nat} {d:Dk} (h:Dp k d):Dp (k+1) (flD d):=by
 refine⟨h.ok.fl,?_,by have:=h.ids;show d.ids<=_;omega,h.spz⟩
 have:=h.wl
 unfold wt at this
 show wtL (syG d.lg).ls+wtO d.op<=_
 rw[ls_sy];omega
theorem Dp.fd {k:Nat} {d:Dk} (h:Dp k d) {n:Int} (hn:n<=9223372036854775807):Dp (k+1) (fdD d n):=by
 refine⟨h.ok.fd hn,?_,by have:=h.ids;show d.ids<=_;omega,h.spz⟩
 have:=h.wl
 unfold wt at this
 show wtL d.lg.ls+wtO d.op<=_
 omega
theorem Dp.cd {k:Nat} {d:Dk} (h:Dp k d) (n:Int):Dp (k+1) (cdD d n):=by
 refine⟨h.ok.cd n,?_,by have:=h.ids;show d.ids<=_;omega,fun o ho=>by simp[cdD] at ho⟩
 have:=h.wl
 unfold wt at this
 show wtL (crG d.lg n).ls+wtO []<=_
 obtain⟨j,_,h2,_⟩:=fitL_take (crN d.lg n) d.lg.ls
 rw[show (crG d.lg n).ls=d.lg.ls.take j from h2]
 have:=wtL_take d.lg.ls j
 simp[wtO];omega
theorem fold_len {α : Type} (f : α -> Pr):∀ (l:List α) (r:List Pr),(l.foldl (fun r x=>insP r (f x)) r).length=r.length+l.length
 | [],r=>by simp
 | x :: l,r=>by rw[List.foldl_cons,fold_len f l,len_insP,List.length_cons];omega
theorem allP_len (d:Dk):(allP d).length<=d.vs.length:=by
 have h:=fold_len (fun x:Ver=>(x.k,x.v)) (d.vs.filter (allV d.vs d.last)) []
 have h2:(d.vs.filter (allV d.vs d.last)).length<=d.vs.length:=List.length_filter_le _ _
 unfold allP
 simp only [List.length_nil] at h
 omega
theorem own_wt:∀ {l:List Ox} {o:Ox},o∈l->o.own.length<=wtO l
 | x :: r,o,h=>by
  have e:wtO (x :: r)=x.own.length+wtO r:=by simp[wtO]
  rcases List.mem_cons.1 h with rfl|h
  ·omega
  ·have:=own_wt h;omega
theorem drS_len {d:Dk} (ok:OkD d) (i:Int) (lo hi:ByteArray):(drS d i lo hi).length<=wt d:=by
 unfold drS
 cases e:opI d i with
 | none=>simp
 | some o=>
  obtain⟨h1,_⟩:=opI_some e
  simp only
  split
  ·simp
  ·have h:=fold_len (fun c:Chg=>(c.k,c.v)) (o.own.filter (fun c => !c.g&&btw lo hi c.k)) ((vrng d.vs lo hi o.sees).filter (fun p=>(ownC o.own p.1).isNone))
   have h2:(o.own.filter (fun c => !c.g&&btw lo hi c.k)).length<=o.own.length:=List.length_filter_le _ _
   have h3:((vrng d.vs lo hi o.sees).filter (fun p=>(ownC o.own p.1).isNone)).length<=(vrng d.vs lo hi o.sees).length:=List.length_filter_le _ _
   have h4:=vrng_len d.vs lo hi o.sees
   have h5:=ok.len
   have h6:=own_wt h1
   unfold rngO wt
   omega
end Go.Proofs.YtcjdoeclblhaeaaGreatDoor
