/- -/
import Derived.Test.YtcjdoeclblhaeaaGreatDoorRAdBase
import Derived.Maps.AppendAt
import Derived.OneCell
import Derived.Test.YtcjdoeclblhaeaaGreatDoorRVsBase
import Derived.Test.YtcjdoeclblhaeaaGreatDoorRVsMath
import Derived.Lib.AppendStr
import Derived.Laws.BytesArg
namespace Go.Proofs.YtcjdoeclblhaeaaGreatDoor
open Go.RowKit
theorem wpList_append_one {w:World} {ops:Array Oper} {rest:List Oper} {o:Oper} {a:Act} {Q:Exit->Act->World->Prop} (t e:TypeId) (size bytes:Nat) (z:Value) (ht:Tryz.prog.underlying t=some (.slice e))
  (hinf:(Tryz.prog.info? e).map (fun i=>(i.zero,i.size,i.bytes))=some (some z,size,bytes)) (hzs:z.cells.size=size) (hsz:0<size) (hby:bytes<=1000) (hgd:o.guard=none) (s x:Operand)
  (ho:o.op=.call { callee:=.builtin .append,args:=#[s,x],argTypes:=#[t,t] })
  (base:Nat) (v:Value) (n:Nat) (xs:List Value) (hs:a.eval s=v) (hown:w.ownsRow base e size v n xs) (hbase:base<=w.heap.size)
  (N:Nat) (cs:List Value) (hx:a.eval x=.slice (some ⟨N,0,none⟩) 1 1) (hlen:cs.length=size) (hc:∀ j u,cs[j]? = some u->w.cell? ⟨N,j,none⟩=some u) (h1:∀ u∈cs,u.oneCell'=true) (h63:n<=1000000)
  (h:∀ v' w',w'.ownsRow base e size v' (n+1) (xs++cs)->w.grownBy w' v.ownBlock->wpList Tryz.prog ops Q rest (a.put o.dst v') w'):wpList Tryz.prog ops Q (o :: rest) a w:=by
 obtain⟨i0,hin,hz0,hz1,hz2⟩:=info_parts hinf
 have hb2:(n+1)*bytes<=140737488355328:=by
  have:=Nat.mul_le_mul (show n+1<=1000001 by omega) hby
  omega
 obtain⟨v',w',hr,h2,h3,_⟩:=run_append_own_at (P:=Tryz.prog) w base t o.type e i0 z size bytes ht hin hz0 hz1 hz2 hzs hsz v n xs hown ⟨N,0,none⟩ 1 1 cs (by rw[hlen,Nat.one_mul]) (fun j u hj=>by
  rw[show (⟨N,0,none⟩:Addr).add j=⟨N,j,none⟩ from by unfold Addr.add;split <;> simp_all]
  exact hc j u hj) h1 (by unfold maxLen;omega) hb2 hbase
 refine wpList_plain hgd fun K hK=>?_
 unfold Oper.wp execOp
 simp only [ho,resolve,invoke,builtin,Sem.run_bind,Sem.run_pure,Result.andThen_ok,List.map_toArray,List.map_cons,List.map_nil,hs,hx,hr]
 exact hK _ _ (h v' w' h2 h3)
theorem wpList_append_oneAt {w:World} {ops:Array Oper} {rest:List Oper} {o:Oper} {a:Act} {Q:Exit->Act->World->Prop} (t e:TypeId) (size bytes:Nat) (z:Value) (ht:Tryz.prog.underlying t=some (.slice e))
  (hinf:(Tryz.prog.info? e).map (fun i=>(i.zero,i.size,i.bytes))=some (some z,size,bytes)) (hzs:z.cells.size=size) (hsz:0<size) (hby:bytes<=1000) (hgd:o.guard=none) (s x:Operand)
  (ho:o.op=.call { callee:=.builtin .append,args:=#[s,x],argTypes:=#[t,t] })
  (base:Nat) (v:Value) (n:Nat) (xs:List Value) (hs:a.eval s=v) (hown:w.ownsRow base e size v n xs) (hbase:base<=w.heap.size)
  (N:Nat) (cs:List Value) (hx:a.eval x=.slice (some ⟨N,0,none⟩) 1 1) (hlen:cs.length=size) (hc:∀ j u,cs[j]? = some u->w.cell? ⟨N,j,none⟩=some u) (h1:∀ u∈cs,u.oneCell'=true) (h63:n<=1000000)
  (h:∀ v' w',w'.ownsRow base e size v' (n+1) (xs++cs)->w.grownBy w' v.ownBlock->(v'.ownBlock=v.ownBlock \/ v'.ownBlock=some w.heap.size)->wpList Tryz.prog ops Q rest (a.put o.dst v') w'):wpList Tryz.prog ops Q (o :: rest) a w:=by
 obtain⟨i0,hin,hz0,hz1,hz2⟩:=info_parts hinf
 have hb2:(n+1)*bytes<=140737488355328:=by
  have:=Nat.mul_le_mul (show n+1<=1000001 by omega) hby
  omega
 obtain⟨v',w',hr,h2,h3,_,h5⟩:=run_append_own_at (P:=Tryz.prog) w base t o.type e i0 z size bytes ht hin hz0 hz1 hz2 hzs hsz v n xs hown ⟨N,0,none⟩ 1 1 cs (by rw[hlen,Nat.one_mul]) (fun j u hj=>by
  rw[show (⟨N,0,none⟩:Addr).add j=⟨N,j,none⟩ from by unfold Addr.add;split <;> simp_all]
  exact hc j u hj) h1 (by unfold maxLen;omega) hb2 hbase
 refine wpList_plain hgd fun K hK=>?_
 unfold Oper.wp execOp
 simp only [ho,resolve,invoke,builtin,Sem.run_bind,Sem.run_pure,Result.andThen_ok,List.map_toArray,List.map_cons,List.map_nil,hs,hx,hr]
 exact hK _ _ (h v' w' h2 h3 h5)
theorem ownMono {w:World} {B B' e size n:Nat} {v:Value} {xs:List Value} (hB:B'<=B) (h:w.ownsRow B e size v n xs):w.ownsRow B' e size v n xs:=by
 refine⟨h.1,?_⟩
 rcases h.2 with hn|⟨g,cap,cur,rfl,h1,rest⟩
 ·exact .inl hn
 ·exact .inr ⟨g,cap,cur,rfl,Nat.le_trans hB h1,rest⟩
end Go.Proofs.YtcjdoeclblhaeaaGreatDoor
namespace Go.Proofs.YtcjdoeclblhaeaaGreatDoor
open Go.RowKit Go.Lib
def byV (l:List UInt8):List Value:=l.map fun b=>Value.int .u8 b.toNat
theorem byV_app (l m:List UInt8):byV (l++m)=byV l++byV m:=by simp[byV]
theorem byV_len (l:List UInt8):(byV l).length=l.length:=by simp[byV]
theorem byV_str (s:ByteArray):strCells s=byV s.data.toList:=rfl
theorem infoByte:(Tryz.prog.info? 5).map (fun i=>(i.zero,i.size,i.bytes))=some (some (.int .u8 0),1,1):=by kernel_rfl
theorem byte_new (W:World) (c:Int) (t:Nat):∀ (j:Nat) (u:Value),([.int .u8 c]:List Value)[j]? = some u->(W.alloc (.cells #[.int .u8 c] t)).cell? ⟨W.heap.size,j,none⟩=some u:=by
 intro j u hj
 match j,hj with
 | 0,hj=>simp at hj;subst hj;simp
theorem byte_one {c:Int}:∀ u∈([.int .u8 c]:List Value),u.oneCell'=true:=by
 intro u hu;simp at hu;rcases hu with rfl;rfl
theorem own_byte {w:World} {B:Nat} {v:Value} {o:List UInt8} {c:UInt8} {n:Int} (hc:n=c.toNat) (h:w.ownsRow B 5 1 v (o.length+1) (byV o ++ [.int .u8 n])):w.ownsRow B 5 1 v (o ++ [c]).length (byV (o ++ [c])):=by
 subst hc
 rw[byV_app,List.length_append];exact h
theorem own_str {w:World} {B:Nat} {v:Value} {o:List UInt8} {s:ByteArray} (h:w.ownsRow B 5 1 v (o.length+s.size) (byV o++strCells s)):w.ownsRow B 5 1 v (o++s.data.toList).length (byV (o++s.data.toList)):=by
 rw[byV_app,List.length_append,<- byV_str];exact h
theorem wpList_append_text {w:World} {ops:Array Oper} {rest:List Oper} {o:Oper} {a:Act} {Q:Exit->Act->World->Prop} (hgd:o.guard=none) (sl x:Operand)
  (ho:o.op=.call { callee:=.builtin .append,args:=#[sl,x],argTypes:=#[30,9] })
  (base:Nat) (v:Value) (l:List UInt8) (hs:a.eval sl=v) (hown:w.ownsRow base 5 1 v l.length (byV l)) (s:ByteArray) (hx:a.eval x=.string s)
  (h63:l.length+s.size<=1000000) (hbase:base<=w.heap.size)
  (h:∀ v' w',w'.ownsRow base 5 1 v' (l++s.data.toList).length (byV (l++s.data.toList))->w.grownBy w' v.ownBlock->wpList Tryz.prog ops Q rest (a.put o.dst v') w'):wpList Tryz.prog ops Q (o :: rest) a w:=by
 obtain⟨i0,hin,hz0,hz1,hz2⟩:=info_parts infoByte
 exact wpList_append_own_string w hgd sl x _ _ ho base _ i0 Tryz.underlying30 Tryz.underlying9 hin hz0 hz1 hz2 v _ _ hs hown s hx (by unfold maxLen;omega) (by omega) hbase (fun v' w' h1 h2 _=>h v' w' (own_str h1) h2)
def ByC (w:World) (b off:Nat) (l:List UInt8):Prop:=∀ (i:Nat) (x:UInt8),l[i]? = some x->w.cell? ⟨b,off+i,none⟩=some (.int .u8 x.toNat)
def ByAt (w:World) (p:Option Addr) (l:List UInt8):Prop:=
 0<l.length -> ∃ b off,p=some ⟨b,off,none⟩/\b<w.heap.size/\ByC w b off l
theorem ByC.step {B:Nat} {w w':World} {b off:Nat} {l:List UInt8} (h:ByC w b off l) (hlt:b<B) (hb:Below B w w'):ByC w' b off l:=fun i x hx=>(hb.cell (p:=⟨b,off+i,none⟩) hlt).trans (h i x hx)
theorem byAt_own {w:World} {B n cap e:Nat} {p:Option Addr} {l:List UInt8} (h:w.ownsRow B e 1 (.slice p n cap) l.length (byV l)):n=l.length/\ByAt w p l:=by
 rcases h.2 with ⟨h0,h1⟩|⟨g,cap',cur,h0,_,hg,_,_,_,_⟩
 ·cases h0;exact⟨h1.symm,fun hp=>by omega⟩
 ·cases h0
  refine⟨rfl,fun _=>⟨g,0,rfl,(Array.getElem?_eq_some_iff.1 hg).1,fun i x hx=>?_⟩⟩
  have hi:=(List.getElem?_eq_some_iff.1 hx).1
  rw[Nat.zero_add,h.cellAt i (by omega)]
  simp[byV,hx]
theorem byCv {w:World} {b off:Nat} {l:List UInt8} (h:ByC w b off l) (i n cap:Nat) (hn:i+n<=l.length) :
  (convert 30 9 (.slice (some ⟨b,off+i,none⟩) n cap)).run Tryz.prog w=.ok (.string (Vs.cutB l i n)) w:=by
 have hlen:(((l.drop i).take n).map (fun x=>(x.toNat:Int))).length=n:=by simp;omega
 have:=run_convert_bytes_arg (P:=Tryz.prog) w 30 5 Tryz.underlying30 Tryz.underlying5 b (off+i) n cap (((l.drop i).take n).map (fun x=>(x.toNat:Int))) hlen (fun j hj=>by
  have hjl:i+j<l.length:=by omega
  rw[Nat.add_assoc,h (i+j) l[i+j] (List.getElem?_eq_getElem hjl)]
  simp[List.getD,hj,List.getElem?_eq_getElem hjl]) 9 Tryz.underlying9
 have hid:((fun n:Int=>UInt8.ofNat n.toNat) ∘ fun x:UInt8=>(x.toNat:Int))=id:=by funext x;simp
 rw[this,Vs.cutB,Vs.mkB,strOfNums,List.map_map,hid,List.map_id]
theorem byStr {w:World} {q:Option Addr} {l:List UInt8} (c:Nat) (h:ByAt w q l):(convert 30 9 (.slice q l.length c)).run Tryz.prog w=.ok (.string (Vs.mkB l)) w:=by
 by_cases h0:0<l.length
 ·obtain⟨b,off,rfl,_,hc⟩:=h h0
  have:=byCv hc 0 l.length c (by omega)
  rw[Nat.add_zero] at this
  rw[this,Vs.cutB];simp
 ·have hl:l=[]:=List.eq_nil_of_length_eq_zero (by omega)
  subst hl
  rw[run_convert_bytes_string w _ _ 5 _ _ _ Tryz.underlying30 Tryz.underlying5 Tryz.underlying9]
  cases q <;> simp[Conv.bytesToString,loadCells,Vs.mkB] <;> rfl
end Go.Proofs.YtcjdoeclblhaeaaGreatDoor
namespace Go.Proofs.YtcjdoeclblhaeaaGreatDoor
open Go.RowKit Vs
def ChIn (w:World) (G:Nat->Prop) (p:Option Addr) (l:List Chg):Prop:=0<l.length -> ∃ b off,p=some ⟨b,off,none⟩/\b<w.heap.size/\G b/\ChC w b off l
theorem ChIn.at {w:World} {G:Nat->Prop} {p:Option Addr} {l:List Chg} (h:ChIn w G p l):ChAt w p l:=fun hl=>by
 obtain⟨b,off,h1,h2,_,h3⟩:=h hl
 exact⟨b,off,h1,h2,h3⟩
theorem ChIn.but {E G:Nat->Prop} {w w':World} {p:Option Addr} {l:List Chg} (h:ChIn w G p l) (hb:But E w w') (hE:∀ j,j<w.heap.size->G j -> ¬ E j):ChIn w' G p l:=by
 intro hl
 obtain⟨b,off,rfl,hlt,hg,hc⟩:=h hl
 have hn:=hE b hlt hg
 refine⟨b,off,rfl,Nat.lt_of_lt_of_le hlt hb.size,hg,fun i x hx=>?_⟩
 rw[hb.cell (p:=⟨b,off+i*3,none⟩) hlt hn,hb.cell (p:=⟨b,off+i*3+1,none⟩) hlt hn,hb.cell (p:=⟨b,off+i*3+2,none⟩) hlt hn]
 exact hc i x hx
theorem ChIn.mono {G H:Nat->Prop} {w:World} {p:Option Addr} {l:List Chg} (h:ChIn w G p l) (hH:∀ j,j<w.heap.size->G j->H j):ChIn w H p l:=fun hl=>by
 obtain⟨b,off,h1,h2,h4,h3⟩:=h hl
 exact⟨b,off,h1,h2,hH b h2 h4,h3⟩
def LsE (w:World) (G:Nat->Prop) (v:Value) (l:List Chg):Prop:=∃ q c,v=.slice q l.length c/\l.length<=c/\c<=9223372036854775807/\ChIn w G q l
theorem LsE.but {E G:Nat->Prop} {w w':World} {v:Value} {l:List Chg} (h:LsE w G v l) (hb:But E w w') (hE:∀ j,j<w.heap.size->G j -> ¬ E j):LsE w' G v l:=by
 obtain⟨q,c,h1,h2,h3,h4⟩:=h
 exact⟨q,c,h1,h2,h3,h4.but hb hE⟩
theorem LsE.mono {G H:Nat->Prop} {w:World} {v:Value} {l:List Chg} (h:LsE w G v l) (hH:∀ j,j<w.heap.size->G j->H j):LsE w H v l:=by
 obtain⟨q,c,h1,h2,h3,h4⟩:=h
 exact⟨q,c,h1,h2,h3,h4.mono hH⟩
def LsC (w:World) (G:Nat->Prop) (b off:Nat) (ls:List (List Chg)):Prop:=∀ i l,ls[i]? = some l -> ∃ v,w.cell? ⟨b,off+i,none⟩=some v/\LsE w G v l
def LsAt (w:World) (G:Nat->Prop) (p:Option Addr) (ls:List (List Chg)):Prop:=0<ls.length -> ∃ b off,p=some ⟨b,off,none⟩/\b<w.heap.size/\G b/\LsC w G b off ls
theorem LsAt.but {E G:Nat->Prop} {w w':World} {p:Option Addr} {ls:List (List Chg)} (h:LsAt w G p ls) (hb:But E w w') (hE:∀ j,j<w.heap.size->G j -> ¬ E j):LsAt w' G p ls:=by
 intro hl
 obtain⟨b,off,rfl,hlt,hg,hc⟩:=h hl
 refine⟨b,off,rfl,Nat.lt_of_lt_of_le hlt hb.size,hg,fun i l hx=>?_⟩
 obtain⟨v,h1,h2⟩:=hc i l hx
 exact⟨v,(hb.cell (p:=⟨b,off+i,none⟩) hlt (hE b hlt hg)).trans h1,h2.but hb hE⟩
theorem LsAt.mono {G H:Nat->Prop} {w:World} {p:Option Addr} {ls:List (List Chg)} (h:LsAt w G p ls) (hH:∀ j,j<w.heap.size->G j->H j):LsAt w H p ls:=by
 intro hl
 obtain⟨b,off,rfl,hlt,hg,hc⟩:=h hl
 refine⟨b,off,rfl,hlt,hH b hlt hg,fun i l hx=>?_⟩
 obtain⟨v,h1,h2⟩:=hc i l hx
 exact⟨v,h1,h2.mono hH⟩
abbrev Tl:=World->(Nat->Prop)->Nat->Lg->Prop
structure LFace (T:World->(Nat->Prop)->Nat->Lg->Prop):Prop where
 but:∀ {w w':World} {E F:Nat->Prop} {B:Nat} {g:Lg},T w F B g->But E w w'->(∀ j,j<w.heap.size->F j -> ¬ E j)->T w' F B g
 newOk:∀ (w:World) {room:Int},0<=room->room<=100000->Calls Tryz.prog 19 #[.int .i64 room] w fun e w'=>∃ B,e=.returned (.tuple #[.pointer (some ⟨B,0,none⟩),.nilIface])/\T w' (fun j=>w.heap.size<=j/\j<w'.heap.size) B (lg0 room)/\Below w.heap.size w w'
 newNo:∀ (w:World) {room:Int},¬ (0<=room/\room<=100000)->Calls Tryz.prog 19 #[.int .i64 room] w fun e w'=>∃ p,e=.returned (.tuple #[.pointer p,errN 1])/\Below w.heap.size w w'
 append:∀ {w:World} {F:Nat->Prop} {B:Nat} {g:Lg} (l:List Chg) (p:Option Addr) (c:Nat),T w F B g->OkL g->(∀ j,F j->j<w.heap.size)->l.length<=c->c<=9223372036854775807->ChIn w (fun j=>¬ F j) p l →
  Calls Tryz.prog 105 #[.pointer (some ⟨B,0,none⟩),.slice p l.length c] w fun e w'=>e=.returned (ev (apF g l))/\T w' (Nw F w w') B (apG g l)/\But F w w'
 sync:∀ {w:World} {F:Nat->Prop} {B:Nat} {g:Lg},T w F B g->OkL g->(∀ j,F j->j<w.heap.size)->Calls Tryz.prog 91 #[.pointer (some ⟨B,0,none⟩)] w fun e w'=>e=.returned (ev (syF g))/\T w' (Nw F w w') B (syG g)/\But F w w'
 fail:∀ {w:World} {F:Nat->Prop} {B:Nat} {g:Lg} (n:Int),-9223372036854775808<=n->n<=9223372036854775807->T w F B g->OkL g->(∀ j,F j->j<w.heap.size)->Calls Tryz.prog 112 #[.pointer (some ⟨B,0,none⟩),.int .i64 n] w fun e w'=>e=.returned (.tuple #[])/\T w' (Nw F w w') B (faG g n)/\But F w w'
 crash:∀ {w:World} {F:Nat->Prop} {B:Nat} {g:Lg} (n:Int),-9223372036854775808<=n->n<=9223372036854775807->T w F B g->OkL g->(∀ j,F j->j<w.heap.size)->Calls Tryz.prog 107 #[.pointer (some ⟨B,0,none⟩),.int .i64 n] w fun e w'=>e=.returned (.tuple #[])/\T w' (Nw F w w') B (crG g n)/\But F w w'
 read:∀ {w:World} {F:Nat->Prop} {B:Nat} {g:Lg},T w F B g->OkL g->Calls Tryz.prog 108 #[.pointer (some ⟨B,0,none⟩)] w fun e w'=>∃ (q:Option Addr) (c:Nat),e=.returned (.slice q g.ls.length c)/\LsAt w' (fun _=>True) q g.ls/\Below w.heap.size w w'
theorem LFace.step {T:Tl} (V:LFace T) {w w':World} {F:Nat->Prop} {B:Nat} {g:Lg} (h:T w F B g) (hb:Below w.heap.size w w'):T w' F B g:=V.but (E:=fun _=>False) h (.below hb) (fun _ _ _=>id)
end Go.Proofs.YtcjdoeclblhaeaaGreatDoor
namespace Go.Proofs.YtcjdoeclblhaeaaGreatDoor
open Go.RowKit Go.Lib
theorem infoChg:(Tryz.prog.info? 215).map (fun i=>(i.zero,i.size,i.bytes))=some (some (.agg #[.string ByteArray.empty,.string ByteArray.empty,.bool false]),3,40):=by kernel_rfl
theorem chg_new {W:World} {x y:ByteArray} {g:Bool} {t B:Nat} (hB:B=W.heap.size):∀ (j:Nat) (u:Value),([.string x,.string y,.bool g]:List Value)[j]? = some u->(W.alloc (.cells #[.string x,.string y,.bool g] t)).cell? ⟨B,j,none⟩=some u:=by
 subst hB
 intro j u hj
 match j,hj with
 | 0,hj=>simp at hj;subst hj;simp
 | 1,hj=>simp at hj;subst hj;simp
 | 2,hj=>simp at hj;subst hj;simp
theorem chg_one {x y:ByteArray} {g:Bool}:∀ u∈([.string x,.string y,.bool g]:List Value),u.oneCell'=true:=by
 intro u hu;simp at hu;rcases hu with rfl|rfl|rfl <;> rfl
theorem own_chg {w:World} {B:Nat} {v:Value} {o:List Vs.Chg} {x y:ByteArray} {g:Bool} (h:w.ownsRow B 215 3 v (o.length+1) (chV o ++ [.string x,.string y,.bool g])):w.ownsRow B 215 3 v (o ++ [Vs.Chg.mk x y g]).length (chV (o ++ [Vs.Chg.mk x y g])):=by
 rw[chV_app,List.length_append];exact h
theorem rowb {w w':World} {B e size n:Nat} {v:Value} {xs:List Value} {F:Nat->Prop} (h:w.ownsRow B e size v n xs) (hb:But F w w') (hF:∀ k,B<=k -> ¬ F k):w'.ownsRow B e size v n xs:=by
 refine⟨h.1,?_⟩
 rcases h.2 with hn|⟨g,cap,cur,rfl,h1,hg,rest⟩
 ·exact .inl hn
 ·exact .inr ⟨g,cap,cur,rfl,h1,(hb.block g (Array.getElem?_eq_some_iff.1 hg).1 (hF g h1)).trans hg,rest⟩
structure Zb (w:World) (b:Nat):Prop where
 c0:w.cell? ⟨b,0,none⟩=some (.string ⟨#[]⟩)
 c1:w.cell? ⟨b,1,none⟩=some (.string ⟨#[]⟩)
 c2:w.cell? ⟨b,2,none⟩=some (.bool false)
 z0:w.frozen? ⟨b,0,none⟩=false
 z1:w.frozen? ⟨b,1,none⟩=false
 z2:w.frozen? ⟨b,2,none⟩=false
theorem Zb.new (w:World) (t:Nat):Zb (w.alloc (.cells #[.string ⟨#[]⟩,.string ⟨#[]⟩,.bool false] t)) w.heap.size:=⟨by simp,by simp,by simp,by simp,by simp,by simp⟩
theorem Zb.but {w w':World} {b:Nat} {F:Nat->Prop} (h:Zb w b) (hb:But F w w') (hlt:b<w.heap.size) (hF:¬ F b):Zb w' b:=
 ⟨(hb.cell (p:=⟨b,0,none⟩) hlt hF).trans h.c0,(hb.cell (p:=⟨b,1,none⟩) hlt hF).trans h.c1,(hb.cell (p:=⟨b,2,none⟩) hlt hF).trans h.c2,
  (hb.frozen (p:=⟨b,0,none⟩) hlt hF).trans h.z0,(hb.frozen (p:=⟨b,1,none⟩) hlt hF).trans h.z1,(hb.frozen (p:=⟨b,2,none⟩) hlt hF).trans h.z2⟩
end Go.Proofs.YtcjdoeclblhaeaaGreatDoor
