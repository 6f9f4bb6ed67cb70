/- -/
import Derived.Test.YtcjdoeclblhaeaaGreatDoorRAdBase
import Derived.Maps.OwnSet
import Derived.Maps.RangeWalk
import Derived.Test.YtcjdoeclblhaeaaGreatDoorRVsBase
import Derived.Test.YtcjdoeclblhaeaaGreatDoorRVsMath
import Derived.Sort.KeysCollected
namespace Go.Proofs.YtcjdoeclblhaeaaGreatDoor
open Go.RowKit Go.Maps Go.WideShapes
open Go.WideElems (Fit rd rg pl rd_val elemAt)
def anyE (v:Value):Option (DataW Value×List MemPlace):=some (.held v,[])
def look (D:DataW Value) (kl:Lit):Option Value:=if Maps.has D kl=true then (match D.atKey kl (.held undef) with | .held v=>some v|_=>none) else none
theorem find_of_has {H:Type} {es:List (Lit×DataW H)} {kl:Lit} (h:Maps.has (.map es) kl=true):∃ p,es.find? (fun p=>p.1.sameKey kl)=some p:=by
 rw[Maps.has_eq,List.any_eq_true] at h
 rw[<- Option.isSome_iff_exists,List.find?_isSome]
 exact h
theorem atKey_find {H:Type} {es:List (Lit×DataW H)} {kl:Lit} {p:Lit×DataW H} (h:es.find? (fun p=>p.1.sameKey kl)=some p) (z:DataW H):(DataW.map es).atKey kl z=p.2:=by
 simp only [DataW.atKey,h]
theorem atKey_any {H:Type} {D:DataW H} {kl:Lit} (h:Maps.has D kl=true) (z1 z2:DataW H):D.atKey kl z1=D.atKey kl z2:=by
 cases D <;> try (simp[Maps.has] at h;done)
 obtain⟨p,hp⟩:=find_of_has h
 rw[atKey_find hp,atKey_find hp]
theorem held_at {w:World} {P:Program} {k b n:Nat} {D:DataW Value} (h:w.ownsMap P k anyE b n D) {kl:Lit} (hk:Maps.has D kl=true) (z:DataW Value):∃ v,D.atKey kl z=.held v:=by
 obtain⟨es,clock,hb,F,_,rfl⟩:=h
 obtain⟨p,hp⟩:=find_of_has hk
 have hm:=List.mem_of_find?_eq_some hp
 rw[mem_sorted] at hm
 obtain⟨x,hx,rfl⟩:=List.mem_map.1 hm
 rw[atKey_find hp]
 obtain⟨y,hy⟩:=F.reads x hx
 refine⟨x.val,?_⟩
 simp only [WideElems.rg,hy,Option.getD_some]
 simp only [WideElems.rd,anyE,Option.bind_eq_some_iff,Option.map_some,Option.some.injEq] at hy
 obtain⟨kk,_,rfl⟩:=hy
 rfl
theorem look_at {w:World} {P:Program} {k b n:Nat} {D:DataW Value} (h:w.ownsMap P k anyE b n D) (kl:Lit) (z:Value):D.atKey kl (.held z)=.held ((look D kl).getD z)/\Maps.has D kl=(look D kl).isSome:=by
 unfold look
 cases hk:Maps.has D kl
 ·rw[if_neg (by simp),Maps.atKey_of_not_has hk];exact⟨rfl,rfl⟩
 ·obtain⟨v,hv⟩:=held_at h hk (.held undef)
  rw[if_pos rfl,atKey_any hk (.held z) (.held undef),hv]
  exact⟨rfl,rfl⟩
theorem look_empty (kl:Lit):look (.map []) kl=none:=by
 simp[look,Maps.has]
theorem look_put {D:DataW Value} (hD:IsMap D) {kl:Lit} (hk:WideAt.IsKeyLit kl) (v:Value):look (D.put kl (.held v)) kl=some v:=by
 unfold look
 rw[Maps.has_put_same hD hk,if_pos rfl,Maps.atKey_put_same hD hk]
theorem look_put_other {D:DataW Value} {kl kl':Lit} (hne:kl'≠kl) (d:DataW Value):look (D.put kl d) kl'=look D kl':=by
 unfold look
 rw[Maps.has_put_other hne,Maps.atKey_put_other hne]
theorem look_del {D:DataW Value} {kl:Lit}:look (D.del kl) kl=none:=by
 unfold look
 rw[Maps.has_del_same,if_neg (by simp)]
theorem look_del_other {D:DataW Value} {kl kl':Lit} (hne:kl'≠kl):look (D.del kl) kl'=look D kl':=by
 unfold look
 rw[Maps.has_del_other hne,Maps.atKey_del_other hne]
abbrev kS (s:ByteArray):Lit:=.string s.data.toList
theorem kS_inj {s t:ByteArray} (h:kS s=kS t):s=t:=by
 cases s;cases t
 simpa [kS] using congrArg List.toArray (Lit.string.inj h)
theorem kS_key (s:ByteArray):WideAt.IsKeyLit (kS s):=trivial
theorem kS_ne {s t:ByteArray} (h:s≠t):kS s≠kS t:=fun e=>h (kS_inj e)
theorem map_but {F:Nat->Prop} {w w':World} {P:Program} {k b n:Nat} {R:Value->Option (DataW Value×List MemPlace)} {D:DataW Value} (h:w.ownsMap P k R b n D) (hb:But F w w') (hF:¬ F b):w'.ownsMap P k R b n D:=by
 obtain⟨es,clock,h1,r⟩:=h
 exact⟨es,clock,(hb.block b (Array.getElem?_eq_some_iff.1 h1).1 hF).trans h1,r⟩
section
variable {w:World} {ops:Array Oper} {rest:List Oper} {o:Oper} {a:Act} {Q:Exit->Act->World->Prop}
theorem run_look (t:TypeId) (k e:TypeId) (K:Keyed Tryz.prog k) (ht:Tryz.prog.underlying t=some (.map k e)) {z:Value} (hz:(zeroValue e).run Tryz.prog w=.ok z w) (b n:Nat) (D:DataW Value) (hown:w.ownsMap Tryz.prog k anyE b n D) (key:Value) (kl:Lit) (hkey:keyOf Tryz.prog k key=some kl) :
  (Instr.lookup t (.map (some b)) key false).run Tryz.prog w=.ok ((look D kl).getD z) w:=by
 obtain⟨v,ps,hrun,hv⟩:=hown.lookup K ht hz (zd:=.held z) (zp:=[]) rfl hkey
 rw[(look_at hown kl z).1] at hv
 have e1:v=(look D kl).getD z:=by simp[anyE] at hv;exact hv.1
 rw[hrun,e1]
theorem wpList_next_str (hg:o.guard=none) (it:Operand) (hop:o.op=Op.next it false) (k:TypeId) (hks:Tryz.prog.underlying k=some .string) (b r n:Nat) (D:DataW Value) (left:Lit->Bool) (cnt:Nat)
  (hit:a.eval it=.pointer (some ⟨r,0,none⟩)) (h:w.ranges Tryz.prog k anyE b r n D left cnt)
  (hDone:cnt=0->(∀ kl,left kl=false)->wpList Tryz.prog ops Q rest (a.put o.dst (.tuple #[.bool false])) w)
  (hMore:∀ (s:ByteArray) (v:Value) (w':World) (cnt':Nat),s.size<=maxLen->left (kS s)=true->look D (kS s)=some v->w'.ranges Tryz.prog k anyE b r n D (fun z=>left z && !z.sameKey (kS s)) cnt'->cnt'<cnt →
   w.grownBy w' (some r)->w'.heap.size=w.heap.size->(Instr.entry (.pointer (some ⟨r,0,none⟩))).run Tryz.prog w'=.ok (.tuple #[.string s,v]) w'->wpList Tryz.prog ops Q rest (a.put o.dst (.tuple #[.bool true,.string s,v])) w') :
  wpList Tryz.prog ops Q (o :: rest) a w:=by
 refine wpList_next_ranges (α := ByteArray) (β := Value) w hg it hop k (string_keyed hks) anyE Value.string id (fun key kl hkey=>?_) (fun v y _=>⟨v,rfl⟩) b r n D left cnt hit h hDone (fun s c kl y w' cnt' hkey hlk hv hat hrg hlt hgr hsz hen=>?_)
 ·cases key <;> simp[keyOf,hks,mapKey] at hkey
  exact⟨_,rfl⟩
 ·have e1:kl=kS s/\s.size<=maxLen:=by
   simp[keyOf,hks,mapKey] at hkey
   exact⟨hkey.2.symm,hkey.1⟩
  obtain⟨rfl,hsz2⟩:=e1
  have hy:y.1=.held c:=by
   have:anyE c=some y:=hv
   simp[anyE] at this
   rw[<- this]
  have hl:look D (kS s)=some c:=by
   have ha:=hat (.held undef)
   have hh:Maps.has D (kS s)=true:=Maps.has_true_of_atKey (y:=y.1) hat
   unfold look
   rw[if_pos hh,ha,hy]
  exact hMore s c w' cnt' hsz2 hlk hl hrg hlt hgr hsz hen
end
end Go.Proofs.YtcjdoeclblhaeaaGreatDoor
namespace Go.Proofs.YtcjdoeclblhaeaaGreatDoor
open Go.RowKit Go.Maps Vs
def hiV (l:List Ver):List Value:=l.flatMap fun x=>[.int .i64 x.n,.string x.v,.bool x.g]
theorem hiV_len:∀ l:List Ver,(hiV l).length=l.length*3
 | []=>rfl
 | s :: r=>by show ((hiV r).length+1+1+1)=_;rw[hiV_len r,List.length_cons];omega
theorem hiV_app (l m:List Ver):hiV (l++m)=hiV l++hiV m:=by simp[hiV]
theorem hiV_at:∀ (l:List Ver) (i:Nat) (x:Ver),l[i]? = some x->(hiV l)[i*3]? = some (.int .i64 x.n)/\(hiV l)[i*3+1]? = some (.string x.v)/\(hiV l)[i*3+2]? = some (.bool x.g)
 | s :: r,0,x,h=>by cases (Option.some.inj h);exact⟨rfl,rfl,rfl⟩
 | s :: r,i+1,x,h=>by
  have:=hiV_at r i x (by simpa using h)
  rw[show (i+1)*3=i*3+3 from by omega,show i*3+3+1=i*3+1+3 from by omega,show i*3+3+2=i*3+2+3 from by omega]
  exact this
theorem hiV_one (l:List Ver):∀ y∈hiV l,y.oneCell'=true:=by
 intro y hy
 simp only [hiV,List.mem_flatMap] at hy
 obtain⟨s,_,hs⟩:=hy
 simp at hs
 rcases hs with rfl|rfl|rfl <;> rfl
def HiC (w:World) (b off:Nat) (l:List Ver):Prop:=
 ∀ i x,l[i]? = some x->w.cell? ⟨b,off+i*3,none⟩=some (.int .i64 x.n)/\w.cell? ⟨b,off+i*3+1,none⟩=some (.string x.v)/\w.cell? ⟨b,off+i*3+2,none⟩=some (.bool x.g)
def HiAt (w:World) (p:Option Addr) (l:List Ver):Prop:=0<l.length -> ∃ b,p=some ⟨b,0,none⟩/\b<w.heap.size/\HiC w b 0 l
theorem HiC.step {w w':World} {b off:Nat} {l:List Ver} (h:HiC w b off l) (hb:Below w.heap.size w w') (hlt:b<w.heap.size):HiC w' b off l:=fun i x hx=>by
 rw[hb.cell (p:=⟨b,off+i*3,none⟩) hlt,hb.cell (p:=⟨b,off+i*3+1,none⟩) hlt,hb.cell (p:=⟨b,off+i*3+2,none⟩) hlt]
 exact h i x hx
theorem HiAt.nil (w:World) (p:Option Addr):HiAt w p []:=fun h=>by simp at h
theorem HiAt.step {w w':World} {p:Option Addr} {l:List Ver} (h:HiAt w p l) (hb:Below w.heap.size w w'):HiAt w' p l:=by
 intro hl
 obtain⟨b,rfl,hlt,hc⟩:=h hl
 exact⟨b,rfl,Nat.lt_of_lt_of_le hlt hb.size,hc.step hb hlt⟩
abbrev sl (g n c:Nat):Value:=.slice (some ⟨g,0,none⟩) n c
theorem own_lt {w:World} {B e size g n c m:Nat} {xs:List Value} (h:w.ownsRow B e size (sl g n c) m xs):g<w.heap.size:=by
 rcases h.2 with ⟨h0,_⟩|⟨g',cap',cur,h0,_,hg,_⟩
 ·cases h0
 ·cases h0;exact (Array.getElem?_eq_some_iff.1 hg).1
theorem own_cap {w:World} {B e size g n c m:Nat} {xs:List Value} (h:w.ownsRow B e size (sl g n c) m xs):n=m/\m<=c/\c<=maxLen:=by
 rcases h.2 with ⟨h0,_⟩|⟨g',cap',cur,h0,_,hg,h1,h2,_⟩
 ·cases h0
 ·cases h0;exact⟨rfl,h1,h2⟩
theorem hiC_own {w:World} {B e g c:Nat} {l:List Ver} (h:w.ownsRow B e 3 (sl g l.length c) l.length (hiV l)):HiC w g 0 l:=fun i x hx=>by
 have hi:=(List.getElem?_eq_some_iff.1 hx).1
 have:=hiV_at l i x hx
 rw[Nat.zero_add,h.cellAt (i*3) (by omega),h.cellAt (i*3+1) (by omega),h.cellAt (i*3+2) (by omega)]
 exact this
theorem own_but {E:Nat->Prop} {w w':World} {B e size g n c m:Nat} {xs:List Value} (h:w.ownsRow B e size (sl g n c) m xs) (hb:But E w w') (hg:¬ E g):w'.ownsRow B e size (sl g n c) m xs:=by
 refine⟨h.1,?_⟩
 rcases h.2 with hn|⟨g',cap,cur,h0,h1,hh,rest⟩
 ·exact .inl hn
 ·cases h0
  exact .inr ⟨g,c,cur,rfl,h1,(hb.block g (Array.getElem?_eq_some_iff.1 hh).1 hg).trans hh,rest⟩
def Rw (w:World) (F:Nat->Prop) (B M:Nat) (D:DataW Value) (h:List Ver) (s:ByteArray):Prop:=
 (h=[]/\look D (kS s)=none) \/ (h ≠ [] /\ ∃ g c,look D (kS s)=some (sl g h.length c)/\F g/\g≠B/\g≠M/\w.ownsRow 0 263 3 (sl g h.length c) h.length (hiV h))
def Apart (D:DataW Value):Prop:=∀ s t g n c n' c',look D (kS s)=some (sl g n c)->look D (kS t)=some (sl g n' c')->s=t
structure Mp (w:World) (F:Nat->Prop) (B M:Nat) (D:DataW Value) (l:List Ver):Prop where
 gM:F M
 ne:M≠B
 own:∃ n,w.ownsMap Tryz.prog 9 anyE M n D
 rows:∀ s,Rw w F B M D (hs l s) s
 apart:Apart D
structure Tab (w:World) (F:Nat->Prop) (B:Nat) (l:List Ver) (top:Int):Prop where
 gB:F B
 c1:w.cell? ⟨B,1,none⟩=some (.int .i64 top)
 f1:w.frozen? ⟨B,1,none⟩=false
 mp:∃ M D,w.cell? ⟨B,0,none⟩=some (.map (some M))/\Mp w F B M D l
theorem Rw.but {E F:Nat->Prop} {w w':World} {B M:Nat} {D:DataW Value} {h:List Ver} {s:ByteArray} (r:Rw w F B M D h s) (hb:But E w w') (hE:∀ j,j<w.heap.size->F j -> ¬ E j):Rw w' F B M D h s:=by
 rcases r with r|⟨h1,g,c,h2,h3,h4,h5,h6⟩
 ·exact .inl r
 ·exact .inr ⟨h1,g,c,h2,h3,h4,h5,own_but h6 hb (hE g (own_lt h6) h3)⟩
theorem Rw.mono {F G:Nat->Prop} {w:World} {B M:Nat} {D:DataW Value} {h:List Ver} {s:ByteArray} (r:Rw w F B M D h s) (hG:∀ j,j<w.heap.size->F j->G j):Rw w G B M D h s:=by
 rcases r with r|⟨h1,g,c,h2,h3,h4,h5,h6⟩
 ·exact .inl r
 ·exact .inr ⟨h1,g,c,h2,hG g (own_lt h6) h3,h4,h5,h6⟩
theorem Mp.lt {w:World} {F:Nat->Prop} {B M:Nat} {D:DataW Value} {l:List Ver} (h:Mp w F B M D l):M<w.heap.size:=by
 obtain⟨n,ho⟩:=h.own
 exact ho.lt
theorem Mp.but {E F:Nat->Prop} {w w':World} {B M:Nat} {D:DataW Value} {l:List Ver} (h:Mp w F B M D l) (hb:But E w w') (hE:∀ j,j<w.heap.size->F j -> ¬ E j):Mp w' F B M D l:=by
 obtain⟨n,ho⟩:=h.own
 exact⟨h.gM,h.ne,⟨n,map_but ho hb (hE M h.lt h.gM)⟩,fun s=>(h.rows s).but hb hE,h.apart⟩
theorem Mp.step {F:Nat->Prop} {w w':World} {B M:Nat} {D:DataW Value} {l:List Ver} (h:Mp w F B M D l) (hb:Below w.heap.size w w'):Mp w' F B M D l:=h.but (E:=fun _=>False) (.below hb) (fun _ _ _=>id)
theorem Mp.mono {F G:Nat->Prop} {w:World} {B M:Nat} {D:DataW Value} {l:List Ver} (h:Mp w F B M D l) (hG:∀ j,j<w.heap.size->F j->G j):Mp w G B M D l:=
 ⟨hG M h.lt h.gM,h.ne,h.own,fun s=>(h.rows s).mono hG,h.apart⟩
theorem Tab.lt {w:World} {F:Nat->Prop} {B:Nat} {l:List Ver} {top:Int} (h:Tab w F B l top):B<w.heap.size:=World.block_lt_of_cell? _ _ h.c1
theorem Tab.but {w w':World} {E F:Nat->Prop} {B:Nat} {l:List Ver} {top:Int} (h:Tab w F B l top) (hb:But E w w') (hE:∀ j,j<w.heap.size->F j -> ¬ E j):Tab w' F B l top:=by
 have hB:=hE B h.lt h.gB
 obtain⟨M,D,h0,hm⟩:=h.mp
 exact⟨h.gB,(hb.cell (p:=⟨B,1,none⟩) h.lt hB).trans h.c1,(hb.frozen (p:=⟨B,1,none⟩) h.lt hB).trans h.f1,M,D,(hb.cell (p:=⟨B,0,none⟩) h.lt hB).trans h0,hm.but hb hE⟩
theorem Tab.step {w w':World} {F:Nat->Prop} {B:Nat} {l:List Ver} {top:Int} (h:Tab w F B l top) (hb:Below w.heap.size w w'):Tab w' F B l top:=h.but (E:=fun _=>False) (.below hb) (fun _ _ _=>id)
theorem Tab.mono {F G:Nat->Prop} {w:World} {B:Nat} {l:List Ver} {top:Int} (h:Tab w F B l top) (hG:∀ j,j<w.heap.size->F j->G j):Tab w G B l top:=by
 obtain⟨M,D,h0,hm⟩:=h.mp
 exact⟨hG B h.lt h.gB,h.c1,h.f1,M,D,h0,hm.mono hG⟩
theorem keyed:Keyed Tryz.prog 9:=string_keyed Tryz.underlying9
theorem Mp.got {w:World} {F:Nat->Prop} {B M:Nat} {D:DataW Value} {l:List Ver} (h:Mp w F B M D l) (s:ByteArray):∃ p c,(look D (kS s)).getD (.slice none 0 0)=.slice p (hs l s).length c/\(hs l s).length<=c/\c<=maxLen/\HiAt w p (hs l s):=by
 rcases h.rows s with ⟨h1,h2⟩|⟨h1,g,c,h2,h3,h4,h5,h6⟩
 ·rw[h1,h2];exact⟨none,0,rfl,Nat.zero_le _,Nat.zero_le _,.nil _ _⟩
 ·rw[h2]
  obtain⟨_,h7,h8⟩:=own_cap h6
  exact⟨some ⟨g,0,none⟩,c,rfl,h7,h8,fun _=>⟨g,rfl,own_lt h6,hiC_own h6⟩⟩
theorem Mp.found {w:World} {F:Nat->Prop} {B M:Nat} {D:DataW Value} {l:List Ver} (h:Mp w F B M D l) {s:ByteArray} {v:Value} (hv:look D (kS s)=some v):hs l s ≠ [] /\ ∃ g c,v=sl g (hs l s).length c/\(hs l s).length<=c/\c<=maxLen/\g<w.heap.size/\HiC w g 0 (hs l s):=by
 rcases h.rows s with ⟨h1,h2⟩|⟨h1,g,c,h2,h3,h4,h5,h6⟩
 ·rw[h2] at hv;cases hv
 ·rw[h2] at hv
  obtain⟨_,h7,h8⟩:=own_cap h6
  exact⟨h1,g,c,(Option.some.inj hv).symm,h7,h8,own_lt h6,hiC_own h6⟩
theorem Mp.has {w:World} {F:Nat->Prop} {B M:Nat} {D:DataW Value} {l:List Ver} (h:Mp w F B M D l) (s:ByteArray):Maps.has D (kS s) = !decide (hs l s=[]):=by
 obtain⟨n,ho⟩:=h.own
 rw[(look_at ho (kS s) undef).2]
 rcases h.rows s with ⟨h1,h2⟩|⟨h1,g,c,h2,_⟩
 ·simp[h1,h2]
 ·simp[h1,h2]
theorem kS_of (x:List UInt8):kS ⟨x.toArray⟩=.string x:=rfl
theorem nodup_keys {w:World} {P:Program} {k b n:Nat} {D:DataW Value} (ho:w.ownsMap P k anyE b n D) (K:Keyed P k) (hk:P.underlying k=some .string):(strKeys D).Nodup/\(∀ x,x∈strKeys D↔Maps.has D (.string x)=true)/\(strKeys D).length=Maps.size D:=by
 obtain⟨es,hD,hpw,_⟩:=ho.entries K
 obtain⟨es',hD',hko⟩:=ho.keysOf
 obtain rfl:es=es':=by rw[hD] at hD';simpa using hD'
 subst hD
 have hst:∀ p∈es,∃ x,p.1=.string x:=fun p hp=>by
  obtain⟨v,hv⟩:=hko p hp
  obtain⟨x,_,hx,_⟩:=Maps.keyOf_str hk hv
  exact⟨x,hx⟩
 refine⟨?_,fun x=>?_,by simp[strKeys,Maps.size]⟩
 ·show (es.map fun p=>strOf p.1).Nodup
  refine List.pairwise_map.2 (hpw.imp_of_mem fun {p q} hp' hq' hne e=>hne ?_)
  obtain⟨a,ha⟩:=hst p hp'
  obtain⟨b,hb⟩:=hst q hq'
  rw[ha,hb] at e ⊢
  exact congrArg _ e
 ·rw[Maps.has_eq,List.any_eq_true]
  show x∈es.map (fun p=>strOf p.1)↔_
  rw[List.mem_map]
  constructor
  ·rintro ⟨p,hp',rfl⟩
   obtain⟨a,ha⟩:=hst p hp'
   exact⟨p,hp',by rw[ha];simp[Lit.sameKey,strOf]⟩
  ·rintro ⟨p,hp',hs⟩
   obtain⟨a,ha⟩:=hst p hp'
   rw[ha] at hs
   exact⟨p,hp',by rw[ha];simpa [Lit.sameKey,strOf] using hs⟩
theorem Mp.tight {w:World} {F:Nat->Prop} {B M:Nat} {D:DataW Value} {l:List Ver} (h:Mp w F B M D l):w.ownsMap Tryz.prog 9 anyE M l.length D/\Maps.size D<=l.length:=by
 obtain⟨n,ho⟩:=h.own
 obtain⟨h1,h2,h3⟩:=nodup_keys ho keyed Tryz.underlying9
 have hle:Maps.size D<=l.length:=by
  rw[<- h3]
  have:=Vs.nodup_le (ms:=l.map (fun x=>x.k.data.toList)) h1 (fun x hx=>by
   have hh:=(h2 x).1 hx
   rw[<- kS_of,h.has] at hh
   have hne:hs l ⟨x.toArray⟩ ≠ []:=by simpa using hh
   obtain⟨y,hy⟩:=List.exists_mem_of_ne_nil _ hne
   obtain⟨m1,m2⟩:=mem_hs.1 hy
   exact List.mem_map.2 ⟨y,m1,by rw[m2]⟩)
  simpa using this
 refine⟨?_,hle⟩
 obtain⟨es,clock,e1,e2,e3,e4⟩:=ho
 refine⟨es,clock,e1,e2,?_,e4⟩
 rw[e4] at hle
 simpa [Maps.size,length_sorted] using hle
end Go.Proofs.YtcjdoeclblhaeaaGreatDoor
namespace Go.Proofs.YtcjdoeclblhaeaaGreatDoor
open Go.RowKit Go.Maps Go.WideShapes Go.ChangeMaps
open Go.WideElems (Fit rd rg pl rd_val elemAt)
abbrev kI (i:Int):Lit:=.int .i64 i
theorem kI_inj {i j:Int} (h:kI i=kI j):i=j:=by injection h
theorem kI_ne {i j:Int} (h:i≠j):kI i≠kI j:=fun e=>h (kI_inj e)
theorem kI_key (i:Int):WideAt.IsKeyLit (kI i):=trivial
theorem keyedI:Keyed Tryz.prog 3:=Maps.int_keyed Tryz.underlying3
def I64 (i:Int):Prop := -9223372036854775808<=i/\i<=9223372036854775807
theorem wf_64 (i:Int):(Lit.int .i64 i).wf=true↔I64 i:=by
 simp[Lit.wf,I64,show IntKind.i64.min = -9223372036854775808 from rfl,show IntKind.i64.max=9223372036854775807 from rfl]
theorem keyInt {i:Int} (h:I64 i):keyOf Tryz.prog 3 (.int .i64 i)=some (kI i):=Maps.keyOf_int_mk Tryz.underlying3 ((wf_64 i).2 h)
theorem find_out {i:Int} (h:¬ I64 i):∀ (es:List MapEntry) (m:Nat),(∀ e∈es,∃ l,keyOf Tryz.prog 3 e.key=some l)->Instr.findNow (.int .i64) (.int .i64 i) es m=some none
 | [],_,_=>rfl
 | e :: es,m,hk=>by
  obtain⟨l,hl⟩:=hk e (by simp)
  obtain⟨a,ha,_,hr⟩:=Maps.keyOf_int_inv Tryz.underlying3 hl
  have hne:¬ i=a:=fun g=>h (by rw[g];exact (wf_64 a).1 hr)
  have hs:Instr.sameNow (.int .i64) (.int .i64 i) e.key=some false:=by rw[ha];simp[Instr.sameNow,hne]
  rw[Instr.findNow,hs]
  exact find_out h es (m+1) (fun e he=>hk e (by simp[he]))
theorem look_out {w:World} {b n:Nat} {D:DataW Value} (h:w.ownsMap Tryz.prog 3 anyE b n D) {i:Int} (hi:¬ I64 i):look D (kI i)=none:=by
 obtain⟨es',hD,hko⟩:=h.keysOf
 subst hD
 unfold look
 rw[if_neg]
 rw[Maps.has_eq,List.any_eq_true]
 rintro ⟨p,hp,hs⟩
 obtain⟨v,hv⟩:=hko p hp
 obtain⟨a,_,ha,hr⟩:=Maps.keyOf_int_inv Tryz.underlying3 hv
 rw[ha] at hs
 have:a=i:=by simpa [Lit.sameKey] using hs
 exact hi (by rw[<- this];exact (wf_64 a).1 hr)
theorem run_lookI {w:World} (t e:TypeId) (c:Bool) (ht:Tryz.prog.underlying t=some (.map 3 e)) {z:Value} (hz:(zeroValue e).run Tryz.prog w=.ok z w) {b n:Nat} {D:DataW Value} (hown:w.ownsMap Tryz.prog 3 anyE b n D) (i:Int) :
  (Instr.lookup t (.map (some b)) (.int .i64 i) c).run Tryz.prog w=.ok (if c=true then .tuple #[(look D (kI i)).getD z,.bool (look D (kI i)).isSome] else (look D (kI i)).getD z) w:=by
 by_cases h:I64 i
 ·have hlt:=fun x=>(look_at hown (kI i) x).1
  obtain⟨es,clock,hb,F,hs,hD⟩:=hown
  subst hD
  rcases Maps.fit_look c keyedI ht hz hb F (keyInt h) with ⟨hrun,_,hat⟩|⟨e0,y,_,_,hrun,hRv,hat,_⟩
  ·have hn:look (.map ((es.toList.map (rg Tryz.prog 3 anyE)).foldr DataW.insert [])) (kI i)=none:=by
    cases e:look (.map ((es.toList.map (rg Tryz.prog 3 anyE)).foldr DataW.insert [])) (kI i) with
    | none=>rfl
    | some v=>
     have a1:=hlt (.bool true)
     have a2:=hlt (.bool false)
     rw[hat,e] at a1 a2
     rw[Option.getD_some] at a1 a2
     rw[<- a2] at a1
     simp at a1
   rw[hn,hrun];rfl
  ·have hy:y.1=.held e0.val:=by
    have:anyE e0.val=some y:=hRv
    simp[anyE] at this
    rw[<- this]
   have hn:look (.map ((es.toList.map (rg Tryz.prog 3 anyE)).foldr DataW.insert [])) (kI i)=some e0.val:=by
    cases e:look (.map ((es.toList.map (rg Tryz.prog 3 anyE)).foldr DataW.insert [])) (kI i) with
    | none=>
     have a1:=hlt (.bool true)
     have a2:=hlt (.bool false)
     rw[hat,hy,e] at a1 a2
     rw[Option.getD_none] at a1 a2
     rw[a2] at a1
     simp at a1
    | some v=>
     have a1:=hlt (.bool true)
     rw[hat,hy,e,Option.getD_some] at a1
     simp at a1
     rw[a1]
   rw[hn,hrun];rfl
 ·rw[look_out hown h]
  obtain⟨es,clock,hb,F,hs,hD⟩:=hown
  have h1:(Instr.findKey 3 (.int .i64 i) es.toList).run Tryz.prog w=.ok none w:=by
   simp[Instr.findKey,run_underlying Tryz.underlying3,find_out h es.toList 0 F.keys,Result.andThen]
  have h2:(Instr.checkKey es.isEmpty 10000 3 (.int .i64 i)).run Tryz.prog w=.ok () w:=by
   rw[Instr.checkKey]
   simp[run_underlying Tryz.underlying3,Result.andThen]
  simp[Instr.lookup,run_underlying ht,MapKept.run_getObj_map hb,h2,h1,hz,Result.andThen]
theorem run_lookS {w:World} (t e:TypeId) (c:Bool) (ht:Tryz.prog.underlying t=some (.map 9 e)) {z:Value} (hz:(zeroValue e).run Tryz.prog w=.ok z w) {b n:Nat} {D:DataW Value} (hown:w.ownsMap Tryz.prog 9 anyE b n D) (k:ByteArray) (hk:k.size<=maxLen) :
  (Instr.lookup t (.map (some b)) (.string k) c).run Tryz.prog w=.ok (if c=true then .tuple #[(look D (kS k)).getD z,.bool (look D (kS k)).isSome] else (look D (kS k)).getD z) w:=by
 have hkey:keyOf Tryz.prog 9 (.string k)=some (kS k):=by simp[keyOf,mapKey,Tryz.underlying9,hk]
 cases c with
 | false=>
  obtain⟨v,ps,hrun,hv⟩:=hown.lookup keyed ht hz (zd:=.held z) (zp:=[]) rfl hkey
  rw[(look_at hown (kS k) z).1] at hv
  have e1:v=(look D (kS k)).getD z:=by simp[anyE] at hv;exact hv.1
  rw[hrun,e1];rfl
 | true=>
  obtain⟨v,ps,hrun,hv⟩:=hown.look_ok keyed ht hz (zd:=.held z) (zp:=[]) rfl hkey
  rw[(look_at hown (kS k) z).1] at hv
  have e1:v=(look D (kS k)).getD z:=by simp[anyE] at hv;exact hv.1
  rw[hrun,e1,(look_at hown (kS k) z).2];rfl
theorem run_delI {w:World} (t e:TypeId) (ht:Tryz.prog.underlying t=some (.map 3 e)) {b n:Nat} {D:DataW Value} (hown:w.ownsMap Tryz.prog 3 anyE b n D) (i:Int) :
  ∃ w' D',(∀ ty,(Builtin.delete_ #[t,3] ty #[.map (some b),.int .i64 i]).run Tryz.prog w=.ok (.tuple #[]) w')/\w'.ownsMap Tryz.prog 3 anyE b n D'/\(∀ j,look D' (kI j)=if j=i then none else look D (kI j))/\w.grownBy w' (some b)/\w'.heap.size=w.heap.size:=by
 by_cases h:I64 i
 ·have hd:=fun ty=>hown.drop keyedI ht (keyInt h) ty
  obtain⟨es,clock,hb,F,hs,hD⟩:=hown
  obtain⟨es',hrun,F',hle,hdel,_⟩:=Maps.fit_drop (ty:=0) keyedI ht hb F (keyInt h)
  refine⟨_,D.del (kI i),fun ty=>?_,⟨es',clock,heap_setBlock_same hb _,F',Nat.le_trans hle hs,by rw[hD,DataW.del_eq,hdel]⟩,fun j=>?_,⟨rfl,rfl,rfl,by simp[setBlock],fun k _ hk=>heap_setBlock_other hb _ (fun g=>hk (by rw[g]))⟩,by simp[setBlock]⟩
  ·rw[<- hrun];rfl
  ·by_cases c:j=i
   ·rw[if_pos c,c];exact look_del
   ·rw[if_neg c];exact look_del_other (kI_ne c)
 ·have hno:=look_out hown h
  obtain⟨es,clock,hb,F,hs,hD⟩:=hown
  have h1:(Instr.findKey 3 (.int .i64 i) es.toList).run Tryz.prog w=.ok none w:=by
   simp[Instr.findKey,run_underlying Tryz.underlying3,find_out h es.toList 0 F.keys,Result.andThen]
  have h2:(Instr.checkKey es.isEmpty 10000 3 (.int .i64 i)).run Tryz.prog w=.ok () w:=by
   rw[Instr.checkKey]
   simp[run_underlying Tryz.underlying3,Result.andThen]
  refine⟨setBlock w b (.map es clock),D,fun ty=>?_,⟨es,clock,heap_setBlock_same hb _,F,hs,hD⟩,fun j=>?_,⟨rfl,rfl,rfl,by simp[setBlock],fun k _ hk=>heap_setBlock_other hb _ (fun g=>hk (by rw[g]))⟩,by simp[setBlock]⟩
  ·simp[Builtin.delete_,run_underlying ht,MapKept.run_getObj_map hb,h2,h1,MapKept.run_setObj_map _ hb,Result.andThen,setBlock]
  ·by_cases c:j=i
   ·rw[if_pos c,c];exact hno
   ·rw[if_neg c]
theorem run_clearI {w:World} (t e:TypeId) (ht:Tryz.prog.underlying t=some (.map 3 e)) {b n:Nat} {D:DataW Value} (hown:w.ownsMap Tryz.prog 3 anyE b n D) :
  ∃ w',(∀ ty,(Builtin.clear_ #[t] ty #[.map (some b)]).run Tryz.prog w=.ok (.tuple #[]) w')/\w'.ownsMap Tryz.prog 3 anyE b 0 (.map [])/\w.grownBy w' (some b)/\w'.heap.size=w.heap.size:=by
 obtain⟨es,clock,hb,F,hs,hD⟩:=hown
 refine⟨setBlock w b (.map #[] clock),fun ty=>?_,⟨#[],clock,heap_setBlock_same hb _,⟨by simp,MapKept.stamped_empty clock,by simp⟩,Nat.le_refl _,rfl⟩,⟨rfl,rfl,rfl,by simp[setBlock],fun k _ hk=>heap_setBlock_other hb _ (fun g=>hk (by rw[g]))⟩,by simp[setBlock]⟩
 simp[Builtin.clear_,run_underlying ht,MapKept.run_getObj_map hb,MapKept.run_setObj_map _ hb,Result.andThen,setBlock]
theorem own_tight {w:World} {P:Program} {k b n:Nat} {D:DataW Value} (h:w.ownsMap P k anyE b n D):w.ownsMap P k anyE b (Maps.size D) D:=by
 obtain⟨es,clock,hb,F,_,hD⟩:=h
 refine⟨es,clock,hb,F,?_,hD⟩
 rw[hD]
 simp[Maps.size,length_sorted]
def intOfL:Lit->Int
 | .int _ x=>x
 | _=>0
def iKeys (D:DataW Value):List Int:=match D with
 | .map es=>es.map (fun p=>intOfL p.1)
 | _=>[]
theorem nodup_iKeys {w:World} {b n:Nat} {D:DataW Value} (ho:w.ownsMap Tryz.prog 3 anyE b n D):(iKeys D).Nodup/\(∀ x,x∈iKeys D↔(look D (kI x)).isSome=true)/\(iKeys D).length=Maps.size D:=by
 have hlk:=fun x=>(look_at ho (kI x) undef).2
 obtain⟨es,hD,hpw,_⟩:=ho.entries keyedI
 obtain⟨es',hD',hko⟩:=ho.keysOf
 obtain rfl:es=es':=by rw[hD] at hD';simpa using hD'
 subst hD
 have hst:∀ p∈es,∃ x,p.1=kI x:=fun p hp=>by
  obtain⟨v,hv⟩:=hko p hp
  obtain⟨x,_,hx,_⟩:=Maps.keyOf_int_inv Tryz.underlying3 hv
  exact⟨x,hx⟩
 refine⟨?_,fun x=>?_,by simp[iKeys,Maps.size]⟩
 ·show (es.map fun p=>intOfL p.1).Nodup
  refine List.pairwise_map.2 (hpw.imp_of_mem fun {p q} hp' hq' hne e=>hne ?_)
  obtain⟨a,ha⟩:=hst p hp'
  obtain⟨b,hb⟩:=hst q hq'
  rw[ha,hb] at e ⊢
  exact congrArg _ e
 ·rw[<- hlk,Maps.has_eq,List.any_eq_true]
  show x∈es.map (fun p=>intOfL p.1)↔_
  rw[List.mem_map]
  constructor
  ·rintro ⟨p,hp',rfl⟩
   obtain⟨a,ha⟩:=hst p hp'
   exact⟨p,hp',by rw[ha];simp[Lit.sameKey,intOfL]⟩
  ·rintro ⟨p,hp',hs⟩
   obtain⟨a,ha⟩:=hst p hp'
   rw[ha] at hs
   exact⟨p,hp',by rw[ha];simpa [Lit.sameKey,intOfL] using hs⟩
theorem size_ints {w:World} {b n:Nat} {D:DataW Value} (ho:w.ownsMap Tryz.prog 3 anyE b n D) {is:List Int} (hn:is.Nodup) (h:∀ x,x∈is↔(look D (kI x)).isSome=true):Maps.size D=is.length:=by
 obtain⟨h1,h2,h3⟩:=nodup_iKeys ho
 rw[<- h3]
 exact Nat.le_antisymm (Vs.nodup_le h1 (fun x hx=>(h x).2 ((h2 x).1 hx))) (Vs.nodup_le hn (fun x hx=>(h2 x).2 ((h x).1 hx)))
theorem size_strs {w:World} {b n:Nat} {D:DataW Value} (ho:w.ownsMap Tryz.prog 9 anyE b n D) {ks:List ByteArray} (hn:ks.Nodup) (h:∀ x,x∈ks↔(look D (kS x)).isSome=true):Maps.size D=ks.length:=by
 obtain⟨h1,h2,h3⟩:=nodup_keys ho keyed Tryz.underlying9
 have hlk:=fun x=>(look_at ho (kS x) undef).2
 have e1:(ks.map (fun k=>k.data.toList)).Nodup:=List.pairwise_map.2 (hn.imp (fun hne e=>hne (kS_inj (congrArg Lit.string e))))
 have e2:ks.length=(ks.map (fun k=>k.data.toList)).length:=by simp
 rw[<- h3,e2]
 refine Nat.le_antisymm (Vs.nodup_le h1 (fun x hx=>?_)) (Vs.nodup_le e1 (fun x hx=>?_))
 ·have hh:=(h2 x).1 hx
  rw[<- kS_of,hlk] at hh
  exact List.mem_map.2 ⟨⟨x.toArray⟩,(h _).2 hh,by simp⟩
 ·obtain⟨k,hk,rfl⟩:=List.mem_map.1 hx
  refine (h2 _).2 ?_
  have:=(h k).1 hk
  rw[<- hlk] at this
  exact this
section
variable {w:World} {ops:Array Oper} {rest:List Oper} {o:Oper} {a:Act} {Q:Exit->Act->World->Prop}
end
end Go.Proofs.YtcjdoeclblhaeaaGreatDoor
namespace Go.Proofs.YtcjdoeclblhaeaaGreatDoor
open Go.RowKit Go.Maps Vs
theorem own_block {w:World} {B e size m:Nat} {v:Value} {xs:List Value} (h:w.ownsRow B e size v m xs) (hm:0<m):∃ g c,v=sl g m c:=by
 rcases h.2 with ⟨_,h0⟩|⟨g,cap,cur,h0,_⟩
 ·omega
 ·exact⟨g,cap,h0⟩
theorem Mp.set {w w2:World} {F E:Nat->Prop} {B M:Nat} {D:DataW Value} {l l':List Ver} {s:ByteArray} {h':List Ver} {g c n:Nat} (h:Mp w F B M D l) (hB:B<w.heap.size)
  (hs':hs l' s=h') (hne:h' ≠ []) (ho:∀ t,t≠s->hs l' t=hs l t)
  (hg:(∃ n c,look D (kS s)=some (sl g n c)) \/ w.heap.size<=g) (hrow:w2.ownsRow 0 263 3 (sl g h'.length c) h'.length (hiV h'))
  (hown:w2.ownsMap Tryz.prog 9 anyE M n (D.put (kS s) (.held (sl g h'.length c)))) (hb:But E w w2) (hE:∀ j,j<w.heap.size->E j->j=M \/ ∃ n c,look D (kS s)=some (sl j n c)):Mp w2 (Nw F w w2) B M (D.put (kS s) (.held (sl g h'.length c))) l':=by
 obtain⟨n0,ho0⟩:=h.own
 have hM:=h.lt
 have hput:look (D.put (kS s) (.held (sl g h'.length c))) (kS s)=some (sl g h'.length c):=look_put ho0.isMap (kS_key s) _
 have hoth:∀ t,t≠s->look (D.put (kS s) (.held (sl g h'.length c))) (kS t)=look D (kS t):=fun t ht=>look_put_other (kS_ne ht) _
 have hfind:∀ t g n c,look D (kS t)=some (sl g n c)->F g/\g≠B/\g≠M/\g<w.heap.size:=fun t g n c hl=>by
  rcases h.rows t with ⟨_,h2⟩|⟨_,g',c',h2,h3,h4,h5,h6⟩
  ·rw[h2] at hl;cases hl
  ·rw[h2] at hl;cases (Option.some.inj hl);exact⟨h3,h4,h5,own_lt h6⟩
 refine⟨.inl h.gM,h.ne,⟨n,hown⟩,fun t=>?_,fun t u g1 n1 c1 n2 c2 e1 e2=>?_⟩
 ·by_cases e:t=s
  ·subst e
   rw[hs']
   refine .inr ⟨hne,g,c,hput,?_⟩
   rcases hg with ⟨n1,c1,e1⟩|hg
   ·obtain⟨f1,f2,f3,f4⟩:=hfind _ _ _ _ e1
    exact⟨.inl f1,f2,f3,hrow⟩
   ·exact⟨.inr ⟨hg,own_lt hrow⟩,by omega,by omega,hrow⟩
  ·rw[ho t e]
   rcases h.rows t with ⟨h1,h2⟩|⟨h1,g',c',h2,h3,h4,h5,h6⟩
   ·exact .inl ⟨h1,by rw[hoth t e];exact h2⟩
   ·refine .inr ⟨h1,g',c',by rw[hoth t e];exact h2,.inl h3,h4,h5,own_but h6 hb (fun k=>?_)⟩
    rcases hE g' (own_lt h6) k with k|⟨n1,c1,k⟩
    ·exact h5 k
    ·exact e (h.apart _ _ _ _ _ _ _ h2 k)
 ·have key:∀ t g1 n1 c1,t≠s->look D (kS t)=some (sl g1 n1 c1)->g1≠g:=fun t' g' n' c' ee ee1 k=>by
   rw[k] at ee1
   rcases hg with ⟨n3,c3,ee2⟩|hg
   ·exact ee (h.apart _ _ _ _ _ _ _ ee1 ee2)
   ·have:=(hfind _ _ _ _ ee1).2.2.2;omega
  by_cases a1:t=s
  ·by_cases a2:u=s
   ·rw[a1,a2]
   ·rw[a1,hput] at e1
    rw[hoth u a2] at e2
    cases (Option.some.inj e1)
    exact absurd rfl (key u _ _ _ a2 e2)
  ·rw[hoth t a1] at e1
   by_cases a2:u=s
   ·rw[a2,hput] at e2
    cases (Option.some.inj e2)
    exact absurd rfl (key t _ _ _ a1 e1)
   ·rw[hoth u a2] at e2
    exact h.apart _ _ _ _ _ _ _ e1 e2
theorem Mp.notB {w w':World} {F:Nat->Prop} {B M:Nat} {D:DataW Value} {l:List Ver} (h:Mp w F B M D l) (hb:But (fun j=>j=B) w w'):Mp w' F B M D l:=by
 obtain⟨n,ho⟩:=h.own
 refine⟨h.gM,h.ne,⟨n,map_but ho hb h.ne⟩,fun s=>?_,h.apart⟩
 rcases h.rows s with r|⟨h1,g,c,h2,h3,h4,h5,h6⟩
 ·exact .inl r
 ·exact .inr ⟨h1,g,c,h2,h3,h4,h5,own_but h6 hb h4⟩
end Go.Proofs.YtcjdoeclblhaeaaGreatDoor
