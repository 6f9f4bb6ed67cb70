/- -/
import Derived.Test.YtmghmpclmphccaaGreatDoorTAdBase
import Derived.Maps.OwnSet
import Derived.Maps.RangeWalk
namespace Go.Proofs.YtmghmpclmphccaaGreatDoor
open Go.RowKit Go.Maps Go.WideShapes
open Go.WideElems (Fit rd rg pl rd_val elemAt)
def anyE (v:Value):Option (DataW Value×List MemPlace):=some (.held v,[])
def look (D:DataW Value) (kl:Lit):Option Value:=if Maps.has D kl=true then (match D.atKey kl (.held undef) with | .held v=>some v|_=>none) else none
theorem find_of_has {H:Type} {es:List (Lit×DataW H)} {kl:Lit} (h:Maps.has (.map es) kl=true):∃ p,es.find? (fun p=>p.1.sameKey kl)=some p:=by
 rw[Maps.has_eq,List.any_eq_true] at h
 rw[<- Option.isSome_iff_exists,List.find?_isSome]
 exact h
theorem atKey_find {H:Type} {es:List (Lit×DataW H)} {kl:Lit} {p:Lit×DataW H} (h:es.find? (fun p=>p.1.sameKey kl)=some p) (z:DataW H):(DataW.map es).atKey kl z=p.2:=by
 simp only [DataW.atKey,h]
theorem atKey_any {H:Type} {D:DataW H} {kl:Lit} (h:Maps.has D kl=true) (z1 z2:DataW H):D.atKey kl z1=D.atKey kl z2:=by
 cases D <;> try (simp[Maps.has] at h;done)
 obtain⟨p,hp⟩:=find_of_has h
 rw[atKey_find hp,atKey_find hp]
theorem held_at {w:World} {P:Program} {k b n:Nat} {D:DataW Value} (h:w.ownsMap P k anyE b n D) {kl:Lit} (hk:Maps.has D kl=true) (z:DataW Value):∃ v,D.atKey kl z=.held v:=by
 obtain⟨es,clock,hb,F,_,rfl⟩:=h
 obtain⟨p,hp⟩:=find_of_has hk
 have hm:=List.mem_of_find?_eq_some hp
 rw[mem_sorted] at hm
 obtain⟨x,hx,rfl⟩:=List.mem_map.1 hm
 rw[atKey_find hp]
 obtain⟨y,hy⟩:=F.reads x hx
 refine⟨x.val,?_⟩
 simp only [WideElems.rg,hy,Option.getD_some]
 simp only [WideElems.rd,anyE,Option.bind_eq_some_iff,Option.map_some,Option.some.injEq] at hy
 obtain⟨kk,_,rfl⟩:=hy
 rfl
theorem look_at {w:World} {P:Program} {k b n:Nat} {D:DataW Value} (h:w.ownsMap P k anyE b n D) (kl:Lit) (z:Value):D.atKey kl (.held z)=.held ((look D kl).getD z)/\Maps.has D kl=(look D kl).isSome:=by
 unfold look
 cases hk:Maps.has D kl
 ·rw[if_neg (by simp),Maps.atKey_of_not_has hk];exact⟨rfl,rfl⟩
 ·obtain⟨v,hv⟩:=held_at h hk (.held undef)
  rw[if_pos rfl,atKey_any hk (.held z) (.held undef),hv]
  exact⟨rfl,rfl⟩
theorem look_empty (kl:Lit):look (.map []) kl=none:=by
 simp[look,Maps.has]
theorem look_put {D:DataW Value} (hD:IsMap D) {kl:Lit} (hk:WideAt.IsKeyLit kl) (v:Value):look (D.put kl (.held v)) kl=some v:=by
 unfold look
 rw[Maps.has_put_same hD hk,if_pos rfl,Maps.atKey_put_same hD hk]
theorem look_put_other {D:DataW Value} {kl kl':Lit} (hne:kl'≠kl) (d:DataW Value):look (D.put kl d) kl'=look D kl':=by
 unfold look
 rw[Maps.has_put_other hne,Maps.atKey_put_other hne]
theorem look_del {D:DataW Value} {kl:Lit}:look (D.del kl) kl=none:=by
 unfold look
 rw[Maps.has_del_same,if_neg (by simp)]
theorem look_del_other {D:DataW Value} {kl kl':Lit} (hne:kl'≠kl):look (D.del kl) kl'=look D kl':=by
 unfold look
 rw[Maps.has_del_other hne,Maps.atKey_del_other hne]
abbrev kS (s:ByteArray):Lit:=.string s.data.toList
theorem kS_inj {s t:ByteArray} (h:kS s=kS t):s=t:=by
 cases s;cases t
 simpa [kS] using congrArg List.toArray (Lit.string.inj h)
theorem kS_key (s:ByteArray):WideAt.IsKeyLit (kS s):=trivial
theorem kS_ne {s t:ByteArray} (h:s≠t):kS s≠kS t:=fun e=>h (kS_inj e)
theorem map_but {F:Nat->Prop} {w w':World} {P:Program} {k b n:Nat} {R:Value->Option (DataW Value×List MemPlace)} {D:DataW Value} (h:w.ownsMap P k R b n D) (hb:But F w w') (hF:¬ F b):w'.ownsMap P k R b n D:=by
 obtain⟨es,clock,h1,r⟩:=h
 exact⟨es,clock,(hb.block b (Array.getElem?_eq_some_iff.1 h1).1 hF).trans h1,r⟩
section
variable {w:World} {ops:Array Oper} {rest:List Oper} {o:Oper} {a:Act} {Q:Exit->Act->World->Prop}
theorem run_look (t:TypeId) (k e:TypeId) (K:Keyed Tryz.prog k) (ht:Tryz.prog.underlying t=some (.map k e)) {z:Value} (hz:(zeroValue e).run Tryz.prog w=.ok z w) (b n:Nat) (D:DataW Value) (hown:w.ownsMap Tryz.prog k anyE b n D) (key:Value) (kl:Lit) (hkey:keyOf Tryz.prog k key=some kl) :
  (Instr.lookup t (.map (some b)) key false).run Tryz.prog w=.ok ((look D kl).getD z) w:=by
 obtain⟨v,ps,hrun,hv⟩:=hown.lookup K ht hz (zd:=.held z) (zp:=[]) rfl hkey
 rw[(look_at hown kl z).1] at hv
 have e1:v=(look D kl).getD z:=by simp[anyE] at hv;exact hv.1
 rw[hrun,e1]
theorem wpList_next_str (hg:o.guard=none) (it:Operand) (hop:o.op=Op.next it false) (k:TypeId) (hks:Tryz.prog.underlying k=some .string) (b r n:Nat) (D:DataW Value) (left:Lit->Bool) (cnt:Nat)
  (hit:a.eval it=.pointer (some ⟨r,0,none⟩)) (h:w.ranges Tryz.prog k anyE b r n D left cnt)
  (hDone:cnt=0->(∀ kl,left kl=false)->wpList Tryz.prog ops Q rest (a.put o.dst (.tuple #[.bool false])) w)
  (hMore:∀ (s:ByteArray) (v:Value) (w':World) (cnt':Nat),s.size<=maxLen->left (kS s)=true->look D (kS s)=some v->w'.ranges Tryz.prog k anyE b r n D (fun z=>left z && !z.sameKey (kS s)) cnt'->cnt'<cnt →
   w.grownBy w' (some r)->w'.heap.size=w.heap.size->(Instr.entry (.pointer (some ⟨r,0,none⟩))).run Tryz.prog w'=.ok (.tuple #[.string s,v]) w'->wpList Tryz.prog ops Q rest (a.put o.dst (.tuple #[.bool true,.string s,v])) w') :
  wpList Tryz.prog ops Q (o :: rest) a w:=by
 refine wpList_next_ranges (α := ByteArray) (β := Value) w hg it hop k (string_keyed hks) anyE Value.string id (fun key kl hkey=>?_) (fun v y _=>⟨v,rfl⟩) b r n D left cnt hit h hDone (fun s c kl y w' cnt' hkey hlk hv hat hrg hlt hgr hsz hen=>?_)
 ·cases key <;> simp[keyOf,hks,mapKey] at hkey
  exact⟨_,rfl⟩
 ·have e1:kl=kS s/\s.size<=maxLen:=by
   simp[keyOf,hks,mapKey] at hkey
   exact⟨hkey.2.symm,hkey.1⟩
  obtain⟨rfl,hsz2⟩:=e1
  have hy:y.1=.held c:=by
   have:anyE c=some y:=hv
   simp[anyE] at this
   rw[<- this]
  have hl:look D (kS s)=some c:=by
   have ha:=hat (.held undef)
   have hh:Maps.has D (kS s)=true:=Maps.has_true_of_atKey (y:=y.1) hat
   unfold look
   rw[if_pos hh,ha,hy]
  exact hMore s c w' cnt' hsz2 hlk hl hrg hlt hgr hsz hen
end
end Go.Proofs.YtmghmpclmphccaaGreatDoor
