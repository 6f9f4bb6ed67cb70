/- -/
import Derived.Test.YtmghmpclmphccaaGreatDoorGVsBase
import Derived.Shelf.SlSortCmp.NoneTotal
import Derived.Test.YtmghmpclmphccaaGreatDoorGVsShelf
import Derived.Laws.Cover1
import Derived.Lib.Bytealg
set_option maxHeartbeats 1000000
set_option maxRecDepth 100000
namespace Go.Proofs.YtmghmpclmphccaaGreatDoor
open Go.RowKit Go.Shelf Go.Lib Go.Sort
theorem J5 {α : Type}[Inhabited α]{enc : α -> List Value}{k:Nat}(hk:∀x,(enc x).length=k){w:World}{B e g cap m:Nat}{xs:List α}(d:Array α)(os:Array Obj)(h:w.ownsRow B e k (.slice (some ⟨g,0,none⟩) xs.length cap) xs.length (xs.flatMap enc))(hl:d.size=xs.length):(sortWorldK enc k w g 0 m d os).ownsRow B e k (.slice (some ⟨g,0,none⟩) xs.length cap) xs.length (d.toList.flatMap enc):=by
 refine⟨by rw[jg hk];simp[hl],?_⟩
 rcases h.2 with ⟨h3,_⟩|⟨g',cap',cur,h3,hb,hg,hn,hc,hs,ht⟩
 ·cases h3
 ·cases h3
  have hgl:g<w.heap.size:=(Array.getElem?_eq_some_iff.1 hg).1
  refine .inr ⟨g,cap,putCells id 0 (flatK enc k d) cur,rfl,hb,?_,hn,hc,by simp[putCells,hs],?_⟩
  ·unfold sortWorldK putRowK
   rw[heap_grow_old _ _ (by simpa [putRow,mapBlock,Sort.ahead] using hgl)]
   simp[putRow,mapBlock,Sort.ahead,Array.getElem?_modify,hg,onCells]
  ·apply List.ext_getElem?
   intro j
   by_cases hj:j<xs.length*k
   ·have hjc:j<cur.size:=by
     have:=Nat.mul_le_mul_right k hn
     omega
    have k0:0<k:=by
     rcases Nat.eq_zero_or_pos k with e|e
     ·subst e;simp at hj
     ·exact e
    have hjd:j / k<d.size:=by rw[hl];exact (Nat.div_lt_iff_lt_mul k0).2 hj
    have hjm:j % k<k:=Nat.mod_lt _ k0
    rw[List.getElem?_take_of_lt hj,UQ hk _ j (by simp[hl];exact hj)]
    have e1:(putCells id 0 (flatK enc k d) cur).toList[j]? = some (flatK enc k d)[j]! := by
     rw[Array.getElem?_toList]
     simp[putCells,hjc,hl,hj]
    rw[e1,get_flatK _ _ _ _ (by rw[hl];exact hj)]
    have e2:d.toList[j / k]? = some d[j / k]! := by
     rw[Array.getElem?_toList,getElem!_pos d _ hjd]
     exact Array.getElem?_eq_getElem hjd
    rw[e2]
    have hlen:=hk d[j / k]!
    simp[hlen,hjm]
   ·rw[List.getElem?_take_eq_none (by omega),List.getElem?_eq_none (by rw[jg hk];simp[hl];omega)]
def dn (w:World)(e g:Nat)(cs:List Value):Prop:=w.heap[g]? = some (.cells cs.toArray e (0,0))
theorem dn.lt {w:World}{e g:Nat}{cs:List Value}(h:dn w e g cs):g<w.heap.size:=(Array.getElem?_eq_some_iff.1 h).1
theorem dn.cell {w:World}{e g:Nat}{cs:List Value}(h:dn w e g cs)(j:Nat):w.cell? ⟨g,j,none⟩=cs[j]? := by
 have h:w.heap[g]? = some (.cells cs.toArray e (0,0)):=h
 simp[World.cell?,h]
theorem dn.frozen {w:World}{e g:Nat}{cs:List Value}(h:dn w e g cs)(j:Nat):w.frozen? ⟨g,j,none⟩=false:=by
 have h:w.heap[g]? = some (.cells cs.toArray e (0,0)):=h
 simp[World.frozen?,h]
theorem dn.set {w:World}{e g:Nat}{cs:List Value}(h:dn w e g cs)(j:Nat)(u:Value):dn (w.setCell ⟨g,j,none⟩ u) e g (cs.set j u):=by
 have h:w.heap[g]? = some (.cells cs.toArray e (0,0)):=h
 show (w.setCell ⟨g,j,none⟩ u).heap[g]? = _
 rw[Sort.setCell_eq]
 simp[mapBlock,Array.getElem?_modify,h,onCells]
theorem dn.keep {w w':World}{e g:Nat}{cs:List Value}(h:dn w e g cs)(hb:Below w.heap.size w w'):dn w' e g cs:=(hb.block g h.lt).trans h
theorem xw {w:World}{B e size g n cap:Nat}{xs:List Value}(h:w.ownsRow B e size (.slice (some ⟨g,0,none⟩) n cap) n xs):∃rest,dn w e g (xs++rest)/\B<=g/\n<=cap/\cap<=maxLen/\(xs++rest).length=cap*size:=by
 rcases h.2 with ⟨h3,_⟩|⟨g',cap',cur,h3,hb,hg,hn,hc,hs,ht⟩
 ·cases h3
 ·cases h3
  refine⟨cur.toList.drop (n*size),?_,hb,hn,hc,?_⟩
  ·show w.heap[g]? = _
   rw[<- ht,List.take_append_drop,hg]
  ·rw[<- ht,List.take_append_drop];simp[hs]
theorem xq {w:World}{B e size g n cap:Nat}{xs rest:List Value}(h:dn w e g (xs++rest))(hx:xs.length=n*size)(hB:B<=g)(hn:n<=cap)(hc:cap<=maxLen)(hl:(xs++rest).length=cap*size):w.ownsRow B e size (.slice (some ⟨g,0,none⟩) n cap) n xs:=
 ⟨hx,.inr ⟨g,cap,(xs++rest).toArray,rfl,hB,h,hn,hc,by simpa using hl,by simp[<- hx]⟩⟩
end Go.Proofs.YtmghmpclmphccaaGreatDoor
namespace Vs
theorem L9 {r s:List Pr}(hp:s.Perm r)(hs:s.Pairwise (fun p q=>bl q.1 p.1=false))(hk:r.Pairwise (fun p q=>p.1≠q.1)):rises s:=by
 have hk2:s.Pairwise (fun p q=>p.1≠q.1):=(hp.pairwise_iff (fun {_ _} h=>Ne.symm h)).2 hk
 refine (hs.and hk2).imp (fun {p q} h=>?_)
 cases e:bl p.1 q.1
 ·exact absurd (qj e h.1) h.2
 ·rfl
end Vs
namespace Go.Proofs.YtmghmpclmphccaaGreatDoor
open Go.RowKit Go.Shelf Go.Lib Go.Sort
def qM (x:ByteArray×ByteArray):List Value:=[.string x.1,.string x.2]
def cmS (a b:ByteArray):Int:=if Vs.bl a b=true then -1 else if Vs.bl b a=true then 1 else 0
abbrev cfP (x y:ByteArray×ByteArray):Int:=cmS x.1 y.1
theorem ltP (x y:ByteArray×ByteArray):ltOf cfP x y=Vs.bl x.1 y.1:=by
 unfold ltOf cfP cmS
 cases h1:Vs.bl x.1 y.1
 ·cases h2:Vs.bl y.1 x.1 <;> simp
 ·simp
theorem ah5:SWO (ltOf cfP) where
 irrefl x:=by rw[ltP];exact Vs.dw _
 trans x y z h1 h2:=by rw[ltP] at *;exact Vs.dA h1 h2
 ntrans x y z h1 h2:=by
  rw[ltP] at *
  cases h:Vs.bl x.1 z.1
  ·rfl
  ·cases h3:Vs.bl y.1 x.1
   ·rw[Vs.qj h1 h3] at h;rw[h] at h2;cases h2
   ·have:=Vs.dA h3 h;rw[this] at h2;cases h2
theorem KJ:∀a b:List UInt8,Lib.compareBytes a b=if Op.bytesLess a b=true then -1 else if Op.bytesLess b a=true then 1 else 0
 | [],[]=>rfl
 | [],_ :: _=>rfl
 | _ :: _,[]=>rfl
 | x :: a,y :: b=>by
  rw[Lib.compareBytes,KJ a b]
  by_cases h1:x<y
  ·simp[Op.bytesLess,h1]
  ·by_cases h2:y<x
   ·have h3:x≠y:=fun e=>h1 (by rw[e] at h2 ⊢;exact h2)
    simp[Op.bytesLess,h1,h2,h3]
   ·have h3:x=y:=UInt8.le_antisymm (UInt8.not_lt.1 h2) (UInt8.not_lt.1 h1)
    subst h3
    simp[Op.bytesLess,h1]
theorem agq (a b:ByteArray):Lib.compareBytes a.data.toList b.data.toList=cmS a b:=by
 rw[KJ,cmS,Vs.bl,Vs.bl,Lib.toList_data,Lib.toList_data]
theorem XQ (a b:ByteArray)(w:World):Calls Tryz.prog 136 #[.string a,.string b] w fun e w'=>e=.returned (.int .i64 (cmS a b))/\w'=w:=by
 go_enter Tryz.func136,Tryz.ntmps136
 go_wp2
 rw[run_callFunc_extern Tryz.func178 (by kernel_rfl) (by kernel_rfl) (by kernel_rfl) (e:=Extern.BytealgCompare.compare) (by kernel_rfl),Lib.run_compareString]
 simp only [Result.andThen]
 rw[Oper.upon_value]
 go_wp2
 go_ret
 exact⟨by rw[agq];rfl,rfl⟩
theorem Ed (a b:ByteArray)(w:World):Calls Tryz.prog 88 #[.string a,.string b] w fun e w'=>e=.returned (.int .i64 (cmS a b))/\w'=w:=by
 have hcon:=fun W'=>XQ a b W'
 generalize cmS a b=r at hcon ⊢
 go_enter Tryz.func88,Tryz.ntmps88
 go_wp2_with (go_at_call 136;refine (hcon _).mono ?_;rintro e w' ⟨rfl,rfl⟩)
 go_ret
 exact⟨rfl,rfl⟩
theorem Xw (x y:ByteArray×ByteArray)(W:World):Calls Tryz.prog 116 #[.agg #[.string x.1,.string x.2],.agg #[.string y.1,.string y.2]] W fun e w'=>e=.returned (.int .i64 (cmS x.1 y.1)) /\ ∃q os',w'=grow (W.drewN q) os':=by
 have hcon:=fun W'=>Ed x.1 y.1 W'
 generalize cmS x.1 y.1=r at hcon ⊢
 go_enter Tryz.func116,Tryz.ntmps116
 go_wp2_with (go_at_call 88;refine (hcon _).mono ?_;rintro e w' ⟨rfl,rfl⟩)
 go_ret
 exact⟨rfl,0,_,by rw[alloc_eq_grow,alloc_eq_grow,grow_grow];rfl⟩
theorem aia (blk off size:Nat)(w:World):CmpLays Tryz.prog 116 #[] qM 2 cfP blk off size w:=
 fun _ _ _ _ x y=>Xw x y _
theorem A8 {w:World}{g n:Nat}{os:Array Obj}(d:Array (ByteArray×ByteArray)):w.grownBy (sortWorldK qM 2 w g 0 n d os) (some g):=by
 refine⟨rfl,rfl,rfl,by have:=size_sortWorldK_c qM 2 w g 0 n d os;exact this,fun k hk hne=>?_⟩
 unfold sortWorldK
 rw[heap_grow_old _ _ (by rw[size_putRowK];simpa using hk)]
 have:g≠k:=fun e=>hne (by rw[e])
 simp[putRowK,putRow,mapBlock,Sort.ahead,Array.getElem?_modify,this]
theorem Vt {w:World}{B g cap e:Nat}{xs:List Vs.Pr}(h:w.ownsRow B e 2 (.slice (some ⟨g,0,none⟩) xs.length cap) xs.length (prV xs)):HoldsK qM 2 w g 0 xs.toArray:=by
 intro j hj
 rw[size_flatK] at hj
 have hj':j<xs.length*2:=by simpa using hj
 rw[get_flatK _ _ _ _ hj]
 have hi:j / 2<xs.length:=by omega
 have hx:xs.toArray[j / 2]! = xs[j / 2]:=by simp[hi]
 have hv:=MB xs (j / 2) xs[j / 2] (List.getElem?_eq_getElem hi)
 rw[hx,Nat.zero_add,h.cellAt j (by omega)]
 refine⟨?_,h.frozenAt _⟩
 rcases Nat.mod_two_eq_zero_or_one j with e|e
 ·have ej:j=j / 2*2:=by omega
  rw[e]
  conv=>lhs;rw[ej]
  rw[hv.1];rfl
 ·have ej:j=j / 2*2+1:=by omega
  rw[e]
  conv=>lhs;rw[ej]
  rw[hv.2];rfl
theorem Ec (fn:Nat)(eg:∀args w,(callFunc fn args).run Tryz.prog w=.ok (.enter fn args) w)(hcmp:∀blk off size w,CmpLays Tryz.prog fn #[] qM 2 cfP blk off size w)(B g cap:Nat)(xs:List Vs.Pr)(w:World)(hown:w.ownsRow B 84 2 (.slice (some ⟨g,0,none⟩) xs.length cap) xs.length (prV xs))(hg:g<w.heap.size)(hl:xs.length<=2000) :
  Calls Tryz.prog 115 #[.slice (some ⟨g,0,none⟩) xs.length cap,.func (.func fn) #[] #[]] w fun e w'=>e=.returned (.tuple #[]) /\ ∃ys:List Vs.Pr,ys.Perm xs/\ys.Pairwise (fun p q=>Vs.bl q.1 p.1=false)/\w'.ownsRow B 84 2 (.slice (some ⟨g,0,none⟩) xs.length cap) xs.length (prV ys)/\w.grownBy w' (some g):=by
 have hH:=Vt hown
 have hcon:=AnyQ.slices_SortFunc Tryz.laySort 2 Tryz.isAgg84 Tryz.sizeOf84 qM (fun _=>rfl) (fun x v hv=>by simp[qM] at hv;rcases hv with rfl|rfl <;> rfl) cfP ah5 fn #[] g 0 cap xs.toArray w eg (hcmp g 0 _ w) hH hg (by simp;omega)
 change Calls Tryz.prog 115 _ _ _ at hcon
 rw[show xs.toArray.size=xs.length from by simp] at hcon
 refine hcon.mono ?_
 rintro e w' ⟨rfl,d',n,os,hp,hs,rfl⟩
 have hsz:d'.size=xs.length:=by simpa using hp.1
 refine⟨rfl,d'.toList,?_,?_,J5 (enc:=qM) (fun _=>rfl) d' os hown hsz,A8 d'⟩
 ·have:=hp.2.2
  rw[show d'.extract 0 xs.length=d' from by rw[<- hsz];simp,show xs.toArray.extract 0 xs.length=xs.toArray from by simp] at this
  simpa using this
 ·rw[List.pairwise_iff_getElem]
  intro i j hi hj hij
  have:=hs i j (by omega) hij (by simp at hj ⊢;omega)
  rw[ltP] at this
  simp at hi hj
  simp[hi,hj] at this
  simpa using this
theorem WO (B g cap:Nat)(xs:List Vs.Pr)(w:World)(hown:w.ownsRow B 84 2 (.slice (some ⟨g,0,none⟩) xs.length cap) xs.length (prV xs))(hg:g<w.heap.size)(hl:xs.length<=1000) :
  Calls Tryz.prog 115 #[.slice (some ⟨g,0,none⟩) xs.length cap,.func (.func 116) #[] #[]] w fun e w'=>e=.returned (.tuple #[]) /\ ∃ys:List Vs.Pr,ys.Perm xs/\ys.Pairwise (fun p q=>Vs.bl q.1 p.1=false)/\w'.ownsRow B 84 2 (.slice (some ⟨g,0,none⟩) xs.length cap) xs.length (prV ys)/\w.grownBy w' (some g):=
 Ec 116 (enters_of Tryz.func116 (by kernel_rfl) rfl) aia B g cap xs w hown hg (by omega)
theorem yR (p:Option Addr)(cap:Nat)(fv:Value)(w:World):Calls Tryz.prog 115 #[.slice p 0 cap,fv] w fun e w'=>e=.returned (.tuple #[])/\w'=w:=
 AnyF.slices_SortFunc_none Tryz.laySort p cap fv w
