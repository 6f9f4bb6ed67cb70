/- -/
import Derived.Test.YtcjdoeclblhaeaaGreatDoorRVsBase
import Derived.Shelf.SlSortCmp.NoneTotal
import Derived.Test.YtcjdoeclblhaeaaGreatDoorRVsShelf
import Derived.Shelf.Abstract
import Derived.Laws.Cover1
import Derived.Lib.Bytealg
set_option maxHeartbeats 1000000
set_option maxRecDepth 100000
namespace Go.Proofs.YtcjdoeclblhaeaaGreatDoor
open Go.RowKit Go.Shelf Go.Lib Go.Sort
theorem own_sortK {α : Type} [Inhabited α] {enc : α -> List Value} {k:Nat} (hk:∀ x,(enc x).length=k) {w:World} {B e g cap m:Nat} {xs:List α} (d:Array α) (os:Array Obj) (h:w.ownsRow B e k (.slice (some ⟨g,0,none⟩) xs.length cap) xs.length (xs.flatMap enc)) (hl:d.size=xs.length):(sortWorldK enc k w g 0 m d os).ownsRow B e k (.slice (some ⟨g,0,none⟩) xs.length cap) xs.length (d.toList.flatMap enc):=by
 refine⟨by rw[flat_len hk];simp[hl],?_⟩
 rcases h.2 with ⟨h3,_⟩|⟨g',cap',cur,h3,hb,hg,hn,hc,hs,ht⟩
 ·cases h3
 ·cases h3
  have hgl:g<w.heap.size:=(Array.getElem?_eq_some_iff.1 hg).1
  refine .inr ⟨g,cap,putCells id 0 (flatK enc k d) cur,rfl,hb,?_,hn,hc,by simp[putCells,hs],?_⟩
  ·unfold sortWorldK putRowK
   rw[heap_grow_old _ _ (by simpa [putRow,mapBlock,Sort.ahead] using hgl)]
   simp[putRow,mapBlock,Sort.ahead,Array.getElem?_modify,hg,onCells]
  ·apply List.ext_getElem?
   intro j
   by_cases hj:j<xs.length*k
   ·have hjc:j<cur.size:=by
     have:=Nat.mul_le_mul_right k hn
     omega
    have k0:0<k:=by
     rcases Nat.eq_zero_or_pos k with e|e
     ·subst e;simp at hj
     ·exact e
    have hjd:j / k<d.size:=by rw[hl];exact (Nat.div_lt_iff_lt_mul k0).2 hj
    have hjm:j % k<k:=Nat.mod_lt _ k0
    rw[List.getElem?_take_of_lt hj,flat_at hk _ j (by simp[hl];exact hj)]
    have e1:(putCells id 0 (flatK enc k d) cur).toList[j]? = some (flatK enc k d)[j]! := by
     rw[Array.getElem?_toList]
     simp[putCells,hjc,hl,hj]
    rw[e1,get_flatK _ _ _ _ (by rw[hl];exact hj)]
    have e2:d.toList[j / k]? = some d[j / k]! := by
     rw[Array.getElem?_toList,getElem!_pos d _ hjd]
     exact Array.getElem?_eq_getElem hjd
    rw[e2]
    have hlen:=hk d[j / k]!
    simp[hlen,hjm]
   ·rw[List.getElem?_take_eq_none (by omega),List.getElem?_eq_none (by rw[flat_len hk];simp[hl];omega)]
def RowIn (w:World) (e g:Nat) (cs:List Value):Prop:=w.heap[g]? = some (.cells cs.toArray e (0,0))
theorem RowIn.lt {w:World} {e g:Nat} {cs:List Value} (h:RowIn w e g cs):g<w.heap.size:=(Array.getElem?_eq_some_iff.1 h).1
theorem RowIn.cell {w:World} {e g:Nat} {cs:List Value} (h:RowIn w e g cs) (j:Nat):w.cell? ⟨g,j,none⟩=cs[j]? := by
 have h:w.heap[g]? = some (.cells cs.toArray e (0,0)):=h
 simp[World.cell?,h]
theorem RowIn.frozen {w:World} {e g:Nat} {cs:List Value} (h:RowIn w e g cs) (j:Nat):w.frozen? ⟨g,j,none⟩=false:=by
 have h:w.heap[g]? = some (.cells cs.toArray e (0,0)):=h
 simp[World.frozen?,h]
theorem RowIn.set {w:World} {e g:Nat} {cs:List Value} (h:RowIn w e g cs) (j:Nat) (u:Value):RowIn (w.setCell ⟨g,j,none⟩ u) e g (cs.set j u):=by
 have h:w.heap[g]? = some (.cells cs.toArray e (0,0)):=h
 show (w.setCell ⟨g,j,none⟩ u).heap[g]? = _
 rw[Sort.setCell_eq]
 simp[mapBlock,Array.getElem?_modify,h,onCells]
theorem RowIn.keep {w w':World} {e g:Nat} {cs:List Value} (h:RowIn w e g cs) (hb:Below w.heap.size w w'):RowIn w' e g cs:=(hb.block g h.lt).trans h
theorem rowIn_own {w:World} {B e size g n cap:Nat} {xs:List Value} (h:w.ownsRow B e size (.slice (some ⟨g,0,none⟩) n cap) n xs):∃ rest,RowIn w e g (xs++rest)/\B<=g/\n<=cap/\cap<=maxLen/\(xs++rest).length=cap*size:=by
 rcases h.2 with ⟨h3,_⟩|⟨g',cap',cur,h3,hb,hg,hn,hc,hs,ht⟩
 ·cases h3
 ·cases h3
  refine⟨cur.toList.drop (n*size),?_,hb,hn,hc,?_⟩
  ·show w.heap[g]? = _
   rw[<- ht,List.take_append_drop,hg]
  ·rw[<- ht,List.take_append_drop];simp[hs]
theorem own_rowIn {w:World} {B e size g n cap:Nat} {xs rest:List Value} (h:RowIn w e g (xs++rest)) (hx:xs.length=n*size) (hB:B<=g) (hn:n<=cap) (hc:cap<=maxLen) (hl:(xs++rest).length=cap*size):w.ownsRow B e size (.slice (some ⟨g,0,none⟩) n cap) n xs:=
 ⟨hx,.inr ⟨g,cap,(xs++rest).toArray,rfl,hB,h,hn,hc,by simpa using hl,by simp[<- hx]⟩⟩
end Go.Proofs.YtcjdoeclblhaeaaGreatDoor
namespace Vs
theorem sorted_rises {r s:List Pr} (hp:s.Perm r) (hs:s.Pairwise (fun p q=>bl q.1 p.1=false)) (hk:r.Pairwise (fun p q=>p.1≠q.1)):rises s:=by
 have hk2:s.Pairwise (fun p q=>p.1≠q.1):=(hp.pairwise_iff (fun {_ _} h=>Ne.symm h)).2 hk
 refine (hs.and hk2).imp (fun {p q} h=>?_)
 cases e:bl p.1 q.1
 ·exact absurd (bl_tri e h.1) h.2
 ·rfl
end Vs
namespace Go.Proofs.YtcjdoeclblhaeaaGreatDoor
open Go.RowKit Go.Shelf Go.Lib Go.Sort
def encP (x:ByteArray×ByteArray):List Value:=[.string x.1,.string x.2]
def cmS (a b:ByteArray):Int:=if Vs.bl a b=true then -1 else if Vs.bl b a=true then 1 else 0
abbrev cfP (x y:ByteArray×ByteArray):Int:=cmS x.1 y.1
theorem ltP (x y:ByteArray×ByteArray):ltOf cfP x y=Vs.bl x.1 y.1:=by
 unfold ltOf cfP cmS
 cases h1:Vs.bl x.1 y.1
 ·cases h2:Vs.bl y.1 x.1 <;> simp
 ·simp
theorem swoP:SWO (ltOf cfP) where
 irrefl x:=by rw[ltP];exact Vs.bl_irr _
 trans x y z h1 h2:=by rw[ltP] at *;exact Vs.bl_trans h1 h2
 ntrans x y z h1 h2:=by
  rw[ltP] at *
  cases h:Vs.bl x.1 z.1
  ·rfl
  ·cases h3:Vs.bl y.1 x.1
   ·rw[Vs.bl_tri h1 h3] at h;rw[h] at h2;cases h2
   ·have:=Vs.bl_trans h3 h;rw[this] at h2;cases h2
theorem cmS_bytes:∀ a b:List UInt8,Lib.compareBytes a b=if Op.bytesLess a b=true then -1 else if Op.bytesLess b a=true then 1 else 0
 | [],[]=>rfl
 | [],_ :: _=>rfl
 | _ :: _,[]=>rfl
 | x :: a,y :: b=>by
  rw[Lib.compareBytes,cmS_bytes a b]
  by_cases h1:x<y
  ·simp[Op.bytesLess,h1]
  ·by_cases h2:y<x
   ·have h3:x≠y:=fun e=>h1 (by rw[e] at h2 ⊢;exact h2)
    simp[Op.bytesLess,h1,h2,h3]
   ·have h3:x=y:=UInt8.le_antisymm (UInt8.not_lt.1 h2) (UInt8.not_lt.1 h1)
    subst h3
    simp[Op.bytesLess,h1]
theorem cmS_eq (a b:ByteArray):Lib.compareBytes a.data.toList b.data.toList=cmS a b:=by
 rw[cmS_bytes,cmS,Vs.bl,Vs.bl,Lib.toList_data,Lib.toList_data]
theorem compareB (a b:ByteArray) (w:World):Calls Tryz.prog 184 #[.string a,.string b] w fun e w'=>e=.returned (.int .i64 (cmS a b))/\w'=w:=by
 go_enter Tryz.func184,Tryz.ntmps184
 go_wp2
 rw[run_callFunc_extern Tryz.func234 (by kernel_rfl) (by kernel_rfl) (by kernel_rfl) (e:=Extern.BytealgCompare.compare) (by kernel_rfl),Lib.run_compareString]
 simp only [Result.andThen]
 rw[Oper.upon_value]
 go_wp2
 go_ret
 exact⟨by rw[cmS_eq];rfl,rfl⟩
theorem compareS (a b:ByteArray) (w:World):Calls Tryz.prog 135 #[.string a,.string b] w fun e w'=>e=.returned (.int .i64 (cmS a b))/\w'=w:=by
 have hcon:=fun W'=>compareB a b W'
 generalize cmS a b=r at hcon ⊢
 go_enter Tryz.func135,Tryz.ntmps135
 go_wp2_with (go_at_call 184;refine (hcon _).mono ?_;rintro e w' ⟨rfl,rfl⟩)
 go_ret
 exact⟨rfl,rfl⟩
theorem closureP (x y:ByteArray×ByteArray) (W:World):Calls Tryz.prog 134 #[.agg #[.string x.1,.string x.2],.agg #[.string y.1,.string y.2]] W fun e w'=>e=.returned (.int .i64 (cmS x.1 y.1)) /\ ∃ q os',w'=grow (W.drewN q) os':=by
 have hcon:=fun W'=>compareS x.1 y.1 W'
 generalize cmS x.1 y.1=r at hcon ⊢
 go_enter Tryz.func134,Tryz.ntmps134
 go_wp2_with (go_at_call 135;refine (hcon _).mono ?_;rintro e w' ⟨rfl,rfl⟩)
 go_ret
 exact⟨rfl,0,_,by rw[alloc_eq_grow,alloc_eq_grow,grow_grow];rfl⟩
theorem cmpP (blk off size:Nat) (w:World):CmpLays Tryz.prog 134 #[] encP 2 cfP blk off size w:=
 fun _ _ _ _ x y=>closureP x y _
theorem grownBy_sortedP {w:World} {g n:Nat} {os:Array Obj} (d:Array (ByteArray×ByteArray)):w.grownBy (sortWorldK encP 2 w g 0 n d os) (some g):=by
 refine⟨rfl,rfl,rfl,by have:=size_sortWorldK_c encP 2 w g 0 n d os;exact this,fun k hk hne=>?_⟩
 unfold sortWorldK
 rw[heap_grow_old _ _ (by rw[size_putRowK];simpa using hk)]
 have:g≠k:=fun e=>hne (by rw[e])
 simp[putRowK,putRow,mapBlock,Sort.ahead,Array.getElem?_modify,this]
theorem holds_prV {w:World} {B g cap e:Nat} {xs:List Vs.Pr} (h:w.ownsRow B e 2 (.slice (some ⟨g,0,none⟩) xs.length cap) xs.length (prV xs)):HoldsK encP 2 w g 0 xs.toArray:=by
 intro j hj
 rw[size_flatK] at hj
 have hj':j<xs.length*2:=by simpa using hj
 rw[get_flatK _ _ _ _ hj]
 have hi:j / 2<xs.length:=by omega
 have hx:xs.toArray[j / 2]! = xs[j / 2]:=by simp[hi]
 have hv:=prV_at xs (j / 2) xs[j / 2] (List.getElem?_eq_getElem hi)
 rw[hx,Nat.zero_add,h.cellAt j (by omega)]
 refine⟨?_,h.frozenAt _⟩
 rcases Nat.mod_two_eq_zero_or_one j with e|e
 ·have ej:j=j / 2*2:=by omega
  rw[e]
  conv=>lhs;rw[ej]
  rw[hv.1];rfl
 ·have ej:j=j / 2*2+1:=by omega
  rw[e]
  conv=>lhs;rw[ej]
  rw[hv.2];rfl
theorem sortPairsG (fn:Nat) (eg:∀ args w,(callFunc fn args).run Tryz.prog w=.ok (.enter fn args) w) (hcmp:∀ blk off size w,CmpLays Tryz.prog fn #[] encP 2 cfP blk off size w) (B g cap:Nat) (xs:List Vs.Pr) (w:World) (hown:w.ownsRow B 141 2 (.slice (some ⟨g,0,none⟩) xs.length cap) xs.length (prV xs)) (hg:g<w.heap.size) (hl:xs.length<=2000) :
  Calls Tryz.prog 133 #[.slice (some ⟨g,0,none⟩) xs.length cap,.func (.func fn) #[] #[]] w fun e w'=>e=.returned (.tuple #[]) /\ ∃ ys:List Vs.Pr,ys.Perm xs/\ys.Pairwise (fun p q=>Vs.bl q.1 p.1=false)/\w'.ownsRow B 141 2 (.slice (some ⟨g,0,none⟩) xs.length cap) xs.length (prV ys)/\w.grownBy w' (some g):=by
 have hH:=holds_prV hown
 have hcon:=AnyQ.slices_SortFunc Tryz.laySort 2 Tryz.isAgg141 Tryz.sizeOf141 encP (fun _=>rfl) (fun x v hv=>by simp[encP] at hv;rcases hv with rfl|rfl <;> rfl) cfP swoP fn #[] g 0 cap xs.toArray w eg (hcmp g 0 _ w) hH hg (by simp;omega)
 change Calls Tryz.prog 133 _ _ _ at hcon
 rw[show xs.toArray.size=xs.length from by simp] at hcon
 refine hcon.mono ?_
 rintro e w' ⟨rfl,d',n,os,hp,hs,rfl⟩
 have hsz:d'.size=xs.length:=by simpa using hp.1
 refine⟨rfl,d'.toList,?_,?_,own_sortK (enc:=encP) (fun _=>rfl) d' os hown hsz,grownBy_sortedP d'⟩
 ·have:=hp.2.2
  rw[show d'.extract 0 xs.length=d' from by rw[<- hsz];simp,show xs.toArray.extract 0 xs.length=xs.toArray from by simp] at this
  simpa using this
 ·rw[List.pairwise_iff_getElem]
  intro i j hi hj hij
  have:=hs i j (by omega) hij (by simp at hj ⊢;omega)
  rw[ltP] at this
  simp at hi hj
  simp[hi,hj] at this
  simpa using this
theorem sortPairs (B g cap:Nat) (xs:List Vs.Pr) (w:World) (hown:w.ownsRow B 141 2 (.slice (some ⟨g,0,none⟩) xs.length cap) xs.length (prV xs)) (hg:g<w.heap.size) (hl:xs.length<=1000) :
  Calls Tryz.prog 133 #[.slice (some ⟨g,0,none⟩) xs.length cap,.func (.func 134) #[] #[]] w fun e w'=>e=.returned (.tuple #[]) /\ ∃ ys:List Vs.Pr,ys.Perm xs/\ys.Pairwise (fun p q=>Vs.bl q.1 p.1=false)/\w'.ownsRow B 141 2 (.slice (some ⟨g,0,none⟩) xs.length cap) xs.length (prV ys)/\w.grownBy w' (some g):=
 sortPairsG 134 (enters_of Tryz.func134 (by kernel_rfl) rfl) cmpP B g cap xs w hown hg (by omega)
theorem sortNone (p:Option Addr) (cap:Nat) (fv:Value) (w:World):Calls Tryz.prog 133 #[.slice p 0 cap,fv] w fun e w'=>e=.returned (.tuple #[])/\w'=w:=
 AnyF.slices_SortFunc_none Tryz.laySort p cap fv w
end Go.Proofs.YtcjdoeclblhaeaaGreatDoor
