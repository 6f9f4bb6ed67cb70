/- -/
import Derived.Test.YtmghmpclmphccaaGreatDoorGPkA
import Derived.Test.YtmghmpclmphccaaGreatDoorGHsA
import Derived.DeepKeys4
import Derived.Laws.Cover1
set_option maxHeartbeats 8000000
set_option maxRecDepth 100000
namespace Bur
open Go
theorem Rn {l:List UInt8}{e:En}(h:enK l=some e):isN e.2.1=true:=by
 unfold enK at h
 split at h
 ·rename_i g
  cases h
  unfold nkB at g
  simp only [Bool.and_eq_true] at g
  exact g.2
 ·split at h
  ·rename_i p hp
   cases h
   unfold pkR at hp
   split at hp
   ·rename_i g
    have:=g.1
    unfold kcB at this
    simp only [Bool.and_eq_true] at this
    exact this.2.2
   ·cases hp
  ·split at h
   ·rename_i a ha
    cases h
    unfold raK at ha
    split at ha
    ·rename_i g
     have:=g.1
     unfold kcB at this
     simp only [Bool.and_eq_true] at this
     exact this.2.2
    ·cases ha
   ·cases h
def nt1 (p:Vs.Pr):Option (List UInt8):=match ek p with
 | none=>none
 | some e=>if e.1=1 then some e.2.1 else none
def lt1 (p:Vs.Pr):Option (List UInt8×Sp):=match ek p with
 | none=>none
 | some e=>if e.1=2 then some e.2 else none
def nts (L:List Vs.Pr):List (List UInt8):=L.filterMap nt1
def lts (L:List Vs.Pr):List (List UInt8×Sp):=L.filterMap lt1
theorem Uj {p:Vs.Pr}{n:List UInt8}:nt1 p=some n ↔ ∃q,ek p=some (1,n,q):=by
 unfold nt1
 cases ek p with
 | none=>simp
 | some e=>
  obtain⟨a,b,c⟩:=e
  simp only [Option.some.injEq,Prod.mk.injEq]
  constructor
  ·intro h
   split at h
   ·rename_i g;cases h;exact⟨c,g,rfl,rfl⟩
   ·cases h
  ·rintro ⟨q,rfl,rfl,rfl⟩
   rw[if_pos rfl]
theorem Nb {p:Vs.Pr}{n:List UInt8}{q:Sp}:lt1 p=some (n,q)↔ek p=some (2,n,q):=by
 unfold lt1
 cases ek p with
 | none=>simp
 | some e=>
  obtain⟨a,b,c⟩:=e
  simp only [Option.some.injEq,Prod.mk.injEq]
  constructor
  ·intro h
   split at h
   ·rename_i g;cases h;exact⟨g,rfl,rfl⟩
   ·cases h
  ·rintro ⟨rfl,rfl,rfl⟩
   rw[if_pos rfl]
theorem Xz (L:List Vs.Pr)(n:List UInt8):xY L n=true↔n∈nts L:=by
 unfold xY nts
 simp only [List.any_eq_true,qP,List.mem_filterMap,Uj,and_true]
theorem aac (L:List Vs.Pr)(n:List UInt8)(q:Sp):qF L n q=true↔(n,q)∈lts L:=by
 unfold qF lts
 simp only [List.any_eq_true,qP,decide_eq_true_eq,List.mem_filterMap,Nb]
 constructor
 ·rintro ⟨p,hp,q',hq,rfl⟩;exact⟨p,hp,hq⟩
 ·rintro ⟨p,hp,hq⟩;exact⟨p,hp,q,hq,rfl⟩
theorem XR (L:List Vs.Pr)(k:Nat)(x:Vs.Pr)(h:L[k]? = some x):nts (L.take (k+1))=nts (L.take k)++(nt1 x).toList:=by
 unfold nts
 rw[List.take_add_one,h,Option.toList_some,List.filterMap_append]
 cases e:nt1 x <;> simp[e]
theorem Zz (L:List Vs.Pr)(k:Nat)(x:Vs.Pr)(h:L[k]? = some x):lts (L.take (k+1))=lts (L.take k)++(lt1 x).toList:=by
 unfold lts
 rw[List.take_add_one,h,Option.toList_some,List.filterMap_append]
 cases e:lt1 x <;> simp[e]
end Bur
namespace Go.Proofs.YtmghmpclmphccaaGreatDoor.Au
open Go.RowKit Go.Maps Pa
def I64 (i:Int):Prop := -9223372036854775808<=i/\i<=9223372036854775807
theorem KZ (i:Int):(Lit.int .i64 i).wf=true↔I64 i:=by
 simp[Lit.wf,I64,show IntKind.i64.min = -9223372036854775808 from rfl,show IntKind.i64.max=9223372036854775807 from rfl]
def ltV (n:List UInt8)(q:Bur.Sp):Value:=.agg #[.string ⟨n.toArray⟩,.int .i64 q.1,.int .i64 q.2]
def ltK (x:List UInt8×Bur.Sp):Lit:=.string (keyBytes [.string x.1,.int .i64 x.2.1,.int .i64 x.2.2])
def OkK (x:List UInt8×Bur.Sp):Prop:=x.1.length<=maxLen/\I64 x.2.1/\I64 x.2.2
theorem laidOut:laidOutB Tryz.prog=true:=by kernel_rfl
theorem afQ:(95:TypeId)<Tryz.prog.types.size:=of_decide_eq_true (by kernel_rfl)
theorem abI:(match Tryz.prog.underlying 95 with|some (.array _ _)|some (.struct _)=>true|_=>false)=true:=by kernel_rfl
theorem acV:Tryz.prog.keyTypeAt 4 95=true:=by kernel_rfl
theorem QD:Keyed Tryz.prog 95:=Keyed.of_law (deep_law_laid (m:=4) laidOut (by omega) afQ acV abI)
theorem Zq:Keyed Tryz.prog 9:=string_keyed Tryz.underlying9
theorem keyS {n:List UInt8}(h:n.length<=maxLen):keyOf Tryz.prog 9 (.string ⟨n.toArray⟩)=some (.string n):=by
 have:(ByteArray.mk n.toArray).size<=maxLen:=by simpa [ByteArray.size] using h
 simp[keyOf,mapKey,Tryz.underlying9,this]
theorem aak:Tryz.prog.cellsOf 95=3:=by kernel_rfl
theorem Xy:Tryz.prog.cellsOf 31=2:=by kernel_rfl
theorem cellsS:Tryz.prog.cellsOf 9=1:=by kernel_rfl
theorem aen:Tryz.prog.cellsOf 3=1:=by kernel_rfl
theorem agX:Tryz.prog.keyType 95=true:=by kernel_rfl
theorem agN (d:Nat){n:List UInt8}(h:n.length<=maxLen):Tryz.prog.keyLits (d+1) 9 [.string ⟨n.toArray⟩]=some [.string n]:=by
 have:(ByteArray.mk n.toArray).size<=maxLen:=by simpa [ByteArray.size] using h
 simp[Program.keyLits,Tryz.underlying9,this]
theorem aht (d:Nat){q:Bur.Sp}(h1:I64 q.1)(h2:I64 q.2):Tryz.prog.keyLits (d+2) 31 [.int .i64 q.1,.int .i64 q.2]=some [.int .i64 q.1,.int .i64 q.2]:=by
 simp[Program.keyLits,Tryz.underlying31,Tryz.underlying3,Xy,aen,(KZ _).2 h1,(KZ _).2 h2]
theorem ahO (d:Nat){n:List UInt8}{q:Bur.Sp}(h:OkK (n,q)):Tryz.prog.keyLits (d+3) 95 [.string ⟨n.toArray⟩,.int .i64 q.1,.int .i64 q.2]=some [.string n,.int .i64 q.1,.int .i64 q.2]:=by
 have e1:=agN (d+1) h.1
 have e2:=aht d h.2.1 h.2.2
 unfold Program.keyLits
 simp[Tryz.underlying95,aak,Xy,cellsS,e1,e2]
theorem acS {n:List UInt8}{q:Bur.Sp}(h:OkK (n,q)):keyOf Tryz.prog 95 (ltV n q)=some (ltK (n,q)):=by
 have e:=fun d=>ahO d h
 unfold keyOf
 simp[Tryz.underlying95,agX,ltV,Value.formed,aak,Value.cells,e,ltK]
theorem adp {n m:List UInt8}{p q:Bur.Sp}(h:ltV n p=ltV m q):(n,p)=(m,q):=by
 obtain⟨a,b⟩:=p
 obtain⟨c,d⟩:=q
 simp only [ltV,Value.agg.injEq] at h
 have h:=congrArg Array.toList h
 simp at h
 obtain⟨h1,h2,h3⟩:=h
 rw[h1,h2,h3]
theorem aaM {x y:List UInt8×Bur.Sp}(hx:OkK x)(hy:OkK y)(h:ltK x=ltK y):x=y:=by
 obtain⟨n,p⟩:=x
 obtain⟨m,q⟩:=y
 have e1:=acS hx
 rw[h] at e1
 exact adp (QD.inj e1 (acS hy))
theorem TV {α : Type}(f : α -> Lit)(hf:∀x,WideAt.IsKeyLit (f x))(ls:List α)(y : α)(hi:∀x∈ls,f x=f y->x=y):(ls.map f).any (fun l=>l.sameKey (f y))=true↔y∈ls:=by
 rw[List.any_eq_true]
 constructor
 ·rintro ⟨l,hl,hs⟩
  obtain⟨x,hx,rfl⟩:=List.mem_map.1 hl
  rw[<- hi x hx (WideAt.sameKey_eq hs)];exact hx
 ·intro hy
  exact⟨f y,List.mem_map.2 ⟨y,hy,rfl⟩,WideAt.sameKey_self (hf y)⟩
def nD (L:List Vs.Pr):DataW Unit:=Maps.setOf (.agg []) ((Bur.nts L).map Lit.string)
def lD (L:List Vs.Pr):DataW Unit:=Maps.setOf (.agg []) ((Bur.lts L).map ltK)
theorem agS (L:List Vs.Pr):∀x∈Bur.lts L,OkK x:=fun x hx=>by
 obtain⟨p,hp,h⟩:=List.mem_filterMap.1 hx
 obtain⟨n,q⟩:=x
 have h:=Bur.Nb.1 h
 have h1:=(Bur.Aa (Bur.Rn h)).2.1
 have h2:=Bur.bn (Bur.iq (Bur.qg h).1)
 have h1:n.length<=8:=h1
 exact⟨by show n.length<=maxLen;unfold maxLen;omega,⟨by show _<=q.1;omega,by show q.1<=_;omega⟩,⟨by show _<=q.2;omega,by show q.2<=_;omega⟩⟩
theorem afD (L:List Vs.Pr)(n:List UInt8):Maps.has (nD L) (.string n)=Bur.xY L n:=by
 unfold nD
 rw[has_setOf _ _ _ (fun x hx=>by obtain⟨_,_,rfl⟩:=List.mem_map.1 hx;trivial),Bool.eq_iff_iff,Bur.Xz]
 exact TV Lit.string (fun _=>trivial) _ n (fun x _ h=>by injection h)
theorem aeT (L:List Vs.Pr){n:List UInt8}{q:Bur.Sp}(h:OkK (n,q)):Maps.has (lD L) (ltK (n,q))=Bur.qF L n q:=by
 unfold lD
 rw[has_setOf _ _ _ (fun x hx=>by obtain⟨_,_,rfl⟩:=List.mem_map.1 hx;trivial),Bool.eq_iff_iff,Bur.aac]
 exact TV ltK (fun _=>trivial) _ (n,q) (fun x hx h'=>aaM (agS L x hx) h h')
structure Sg (w:World)(a b:Nat)(L:List Vs.Pr):Prop where
 n:w.ownsMap Tryz.prog 9 unitElem a L.length (nD L)
 l:w.ownsMap Tryz.prog 95 unitElem b L.length (lD L)
theorem Sg.step {w w':World}{a b:Nat}{L:List Vs.Pr}(h:Sg w a b L)(hb:Below w.heap.size w w'):Sg w' a b L:=⟨Ha.dJ h.n hb,Ha.dJ h.l hb⟩
def sgV (a b:Nat):Value:=.agg #[.map (some a),.map (some b)]
theorem adJ (w:World):(zeroValue 145).run Tryz.prog w=.ok (.agg #[]) w:=by kernel_rfl
theorem aft {w:World}{a b:Nat}{L:List Vs.Pr}(h:Sg w a b L){n:List UInt8}(hn:n.length<=maxLen):(Instr.lookup 88 (.map (some a)) (.string ⟨n.toArray⟩) true).run Tryz.prog w=.ok (.tuple #[.agg #[],.bool (Bur.xY L n)]) w:=by
 obtain⟨v,ps,hrun,hv⟩:=h.n.look_ok Zq Tryz.underlying88 (adJ w) (zd:=.agg []) (zp:=[]) unitElem_mk (keyS hn)
 rw[hrun,(unitElem_inv hv).1,afD]
theorem aeX {w:World}{a b:Nat}{L:List Vs.Pr}(h:Sg w a b L){n:List UInt8}{q:Bur.Sp}(hn:OkK (n,q)):(Instr.lookup 89 (.map (some b)) (.agg #[.string ⟨n.toArray⟩,.int .i64 q.1,.int .i64 q.2]) true).run Tryz.prog w=.ok (.tuple #[.agg #[],.bool (Bur.qF L n q)]) w:=by
 obtain⟨v,ps,hrun,hv⟩:=h.l.look_ok QD Tryz.underlying89 (adJ w) (zd:=.agg []) (zp:=[]) unitElem_mk (acS hn)
 have hrun:(Instr.lookup 89 (.map (some b)) (.agg #[.string ⟨n.toArray⟩,.int .i64 q.1,.int .i64 q.2]) true).run Tryz.prog w=_:=hrun
 rw[hrun,(unitElem_inv hv).1,aeT L hn]
def fnF (L:List Vs.Pr)(n:List UInt8):Int:=if Bur.xY L n=true then 0 else 4
theorem Lm {w:World}{a b:Nat}{L:List Vs.Pr}(h:Sg w a b L){n:List UInt8}(hn:n.length<=maxLen):Calls Tryz.prog 44 #[sgV a b,.string ⟨n.toArray⟩] w fun e w'=>e=.returned (ev (fnF L n))/\Below w.heap.size w w':=by
 have b1:=aj (ah w) (.cells #[.map (some a),.map (some b)] 91)
 have K:=aft (h.step b1) hn
 unfold fnF
 unfold sgV
 cases hh:Bur.xY L n with
 | true=>
  rw[hh] at K
  rw[if_pos rfl,aB]
  clear hh
  go_enter Tryz.func44,Tryz.ntmps44
  go_wp2
  go_ret
  exact⟨rfl,aj b1 _⟩
 | false=>
  rw[hh] at K
  rw[if_neg (by decide),ay (by decide)]
  clear hh
  go_enter Tryz.func44,Tryz.ntmps44
  go_wp2
  go_ret
  exact⟨rfl,aj b1 _⟩
theorem adw {w:World}{a b:Nat}{L:List Vs.Pr}(h:Sg w a b L){n:List UInt8}{x l:Int}(hn:OkK (n,(x,l))):Calls Tryz.prog 40 #[sgV a b,.agg #[.string ⟨n.toArray⟩,.int .i64 x,.int .i64 l]] w fun e w'=>e=.returned (.bool (Bur.qF L n (x,l)))/\Below w.heap.size w w':=by
 have b1:=aj (ah w) (.cells #[.map (some a),.map (some b)] 91)
 have b2:=aj b1 (.cells #[.string ⟨n.toArray⟩,.int .i64 x,.int .i64 l] 95)
 have K:=aeX (h.step b2) hn
 unfold sgV
 generalize Bur.qF L n (x,l)=R at K ⊢
 go_enter Tryz.func40,Tryz.ntmps40
 go_wp2
 go_ret
 exact⟨rfl,aj b2 _⟩
end Go.Proofs.YtmghmpclmphccaaGreatDoor.Au
namespace Bur
def fnz:List Int->Int
 | []=>0
 | f :: r=>if f=0 then fnz r else f
theorem drop_cons {α : Type}{l:List α}{k:Nat}{x : α}(h:l[k]? = some x):l.drop k=x :: l.drop (k+1):=by
 obtain⟨hk,rfl⟩:=List.getElem?_eq_some_iff.1 h
 exact List.drop_eq_getElem_cons hk
theorem ag6 (a b:ByteArray):(Go.Op.bytesLess a.toList b.toList || a.toList==b.toList) = !(Vs.bl b a):=by
 rw[show Go.Op.bytesLess a.toList b.toList=Vs.bl a b from rfl,Vs.qO]
 by_cases h:a=b
 ·subst h
  rw[Vs.dw];simp
 ·rw[decide_eq_false h,Bool.or_false]
  cases h1:Vs.bl b a with
  | true=>
   cases h2:Vs.bl a b with
   | true=>have:=Vs.dA h1 h2;rw[Vs.dw] at this;cases this
   | false=>rfl
  | false=>
   cases h2:Vs.bl a b with
   | true=>rfl
   | false=>exact absurd (Vs.qj h2 h1) h
end Bur
namespace Go.Proofs.YtmghmpclmphccaaGreatDoor.Au
open Go.RowKit Go.Maps Pa
theorem Vh (fs:List Int)(b cap:Nat)(w:World)(hc:∀i f,fs[i]? = some f->w.cell? ⟨b,i,none⟩=some (ev f))(hl:fs.length<=100) :
  Calls Tryz.prog 43 #[.slice (some ⟨b,0,none⟩) fs.length cap] w fun e w'=>e=.returned (ev (Bur.fnz fs))/\w'=w:=by
 obtain⟨R,hR⟩:∃R,R=Bur.fnz fs:=⟨_,rfl⟩
 have hR0:Hid (R=Bur.fnz (fs.drop 0)):=hR
 rw[<- hR]
 clear hR
 go_enter Tryz.func43,Tryz.ntmps43
 go_wp2
 go_loopw [7] (fun i wr=>∃k:Nat,k<=fs.length/\i=.int .i64 k/\Hid (R=Bur.fnz (fs.drop k))/\wr=w) (fun i _=>fs.length - (intOf i).toNat)
 case atStart=>exact⟨0,by omega,rfl,hR0,rfl⟩
 case round=>
  obtain⟨k,hk,rfl,hM,hw⟩:=hrel
  have hw':=hw.symm
  subst hw'
  clear hR0
  by_cases hlt:k<fs.length
  ·have hlt':(k:Int)<(fs.length:Int):=by omega
   obtain⟨f,hf⟩:∃f,fs[k]? = some f:=⟨fs[k],List.getElem?_eq_getElem hlt⟩
   have c0:=hc k f hf
   have hd:=Bur.drop_cons hf
   by_cases h0:f=0
   ·subst h0
    rw[aB] at c0
    have hM2:Hid (R=Bur.fnz (fs.drop (k+1))):=by show _=_;rw[hM.out,hd];rfl
    clear hM hd hf hc
    go_wp2
    exact⟨⟨k+1,by omega,by go_num,hM2,trivial⟩,by simp[intOf];omega⟩
   ·rw[ay h0] at c0
    have hM2:Hid (R=f):=by show _=_;rw[hM.out,hd];exact if_neg h0
    have hE:Hid (ev f=aC f):=ay h0
    clear hM hd hf hc
    go_wp2
    go_ret
    exact⟨by rw[hM2.out];exact congrArg Ending.returned hE.out.symm,rfl⟩
  ·have hlt':¬(k:Int)<(fs.length:Int):=by omega
   have hM2:Hid (R=0):=by show _=_;rw[hM.out,List.drop_of_length_le (by omega)];rfl
   clear hM hc
   go_wp2
   go_ret
   exact⟨by rw[hM2.out];rfl,rfl⟩
theorem aa9 (L:List Vs.Pr)(p:Option Addr)(cap i:Nat)(x:Vs.Pr)(w:World)(hp:sH w p L)(hx:L[i]? = some x)(hl:L.length<=1000) :
  Calls Tryz.prog 69 #[.slice p L.length cap,.int .i64 i] w fun e w'=>e=.returned (ev (Bur.plE (Bur.prv L i) x.1))/\Below w.heap.size w w':=by
 have hi:i<L.length:=(List.getElem?_eq_some_iff.1 hx).1
 obtain⟨b,off,rfl,hbl,hc⟩:=hp (by omega)
 by_cases h0:i=0
 ·subst h0
  rw[show Bur.plE (Bur.prv L 0) x.1=0 from rfl,aB]
  clear hc hx
  go_enter Tryz.func69,Tryz.ntmps69
  go_wp2
  go_quiet (fail)
  go_wp2
  go_ret
  exact⟨rfl,below_drewN (ah _) _⟩
 ·obtain⟨y,hy⟩:∃y,L[i - 1]? = some y:=⟨L[i - 1],List.getElem?_eq_getElem (by omega)⟩
  have c0:=(hc i x hx).1
  have c1:=(hc (i - 1) y hy).1
  have hpr:Bur.prv L i=some y.1:=by unfold Bur.prv;rw[if_neg h0,hy];rfl
  rw[hpr]
  have hle:=Bur.ag6 x.1 y.1
  have i0:(0:Int)<(i:Int):=by omega
  have i1:(i:Int)<(L.length:Int):=by omega
  obtain⟨j,rfl⟩:∃j,i=j+1:=⟨i - 1,by omega⟩
  rw[show j+1 - 1=j from rfl] at c1
  show Calls _ _ _ _ fun e w'=>e=.returned (ev (if Vs.bl y.1 x.1=true then 0 else 2))/\_
  cases hb:Vs.bl y.1 x.1 with
  | true=>
   rw[hb] at hle
   have hle:(Op.bytesLess x.1.toList y.1.toList || x.1.toList==y.1.toList)=false:=hle
   rw[if_pos rfl,aB]
   clear hpr hb hx hy hc h0
   go_enter Tryz.func69,Tryz.ntmps69
   go_wp2
   go_quiet (fail)
   go_wp2
   go_ret
   exact⟨rfl,below_drewN (ah _) _⟩
  | false=>
   rw[hb] at hle
   have hle:(Op.bytesLess x.1.toList y.1.toList || x.1.toList==y.1.toList)=true:=hle
   rw[if_neg (by decide),ay (by decide)]
   clear hpr hb hx hy hc h0
   go_enter Tryz.func69,Tryz.ntmps69
   go_wp2
   go_quiet (fail)
   go_wp2
   go_ret
   exact⟨rfl,below_drewN (ah _) _⟩
structure Lb (w:World)(b:Nat)(n:List UInt8)(x l:Int):Prop where
 c0:w.cell? ⟨b,0,none⟩=some (.string ⟨n.toArray⟩)
 c1:w.cell? ⟨b,1,none⟩=some (.int .i64 x)
 c2:w.cell? ⟨b,2,none⟩=some (.int .i64 l)
 f1:w.frozen? ⟨b,1,none⟩=false
 f2:w.frozen? ⟨b,2,none⟩=false
theorem Lb.lt {w:World}{b:Nat}{n:List UInt8}{x l:Int}(h:Lb w b n x l):b<w.heap.size:=World.block_lt_of_cell? _ _ h.c0
theorem Lb.step {w w':World}{b:Nat}{n:List UInt8}{x l:Int}(h:Lb w b n x l)(hb:Below w.heap.size w w'):Lb w' b n x l:=
 ⟨(hb.cell (p:=⟨b,0,none⟩) h.lt).trans h.c0,(hb.cell (p:=⟨b,1,none⟩) h.lt).trans h.c1,(hb.cell (p:=⟨b,2,none⟩) h.lt).trans h.c2,(hb.frozen (p:=⟨b,1,none⟩) h.lt).trans h.f1,(hb.frozen (p:=⟨b,2,none⟩) h.lt).trans h.f2⟩
theorem Lb.new (w:World)(t:Nat)(n:List UInt8)(x l:Int):Lb (w.alloc (.cells #[.string ⟨n.toArray⟩,.int .i64 x,.int .i64 l] t)) w.heap.size n x l:=⟨by simp,by simp,by simp,by simp,by simp⟩
theorem Lb.put {w:World}{b:Nat}{n:List UInt8}{x l:Int}(h:Lb w b n x l)(y m:Int):Lb ((w.setCell ⟨b,1,none⟩ (.int .i64 y)).setCell ⟨b,2,none⟩ (.int .i64 m)) b n y m:=by
 obtain⟨c0,c1,c2,f1,f2⟩:=h
 exact⟨aK (aK c0 (by decide)) (by decide),aK (iC c1) (by decide),iC (aK c2 (by decide)),by go_simp,by go_simp⟩
theorem Sg.lt {w:World}{A B:Nat}{L:List Vs.Pr}(h:Sg w A B L):A<w.heap.size/\B<w.heap.size:=by
 obtain⟨⟨es,c,h1,_⟩,⟨es',c',h2,_⟩⟩:=h
 exact⟨(Array.getElem?_eq_some_iff.1 h1).1,(Array.getElem?_eq_some_iff.1 h2).1⟩
theorem Sg.set {w:World}{A B:Nat}{L:List Vs.Pr}(h:Sg w A B L){b:Nat}(hA:A≠b)(hB:B≠b)(i:Nat)(v:Value):Sg (w.setCell ⟨b,i,none⟩ v) A B L:=⟨h.n.setCell (a:=⟨b,i,none⟩) hA v,h.l.setCell (a:=⟨b,i,none⟩) hB v⟩
theorem pY {w:World}{b c i j:Nat}{u v:Value}(h:w.cell? ⟨c,j,none⟩=some u)(hne:c≠b):(w.setCell ⟨b,i,none⟩ v).cell? ⟨c,j,none⟩=some u:=by
 have e1:(⟨c,j,none⟩:Addr)≠⟨b,i,none⟩:=fun e=>hne (by injection e)
 go_simp
def caF (L:List Vs.Pr)(k:Int)(n:List UInt8)(a:Int):Int:=if k=3/\Bur.Pj L n a=false then 7 else 0
def lpN (w:World):Value->Value->Nat
 | .nilIface,.pointer (some p)=>(intOf ((w.cell? ⟨p.block,2,none⟩).getD (.int .i64 0))).toNat+1
 | _,_=>0
theorem ahZ {n:List UInt8}(hn:n.length<=maxLen){a k:Int}(ha:Bur.isA a=true)(h0:0<=k)(h1:k<=32):OkK (n,Bur.upP a k):=by
 obtain⟨_,_,a0,a1,_⟩:=Bur.bn (Bur.QS ha h0 h1)
 exact⟨hn,⟨by show _<=(Bur.upP a k).1;omega,by show (Bur.upP a k).1<=_;omega⟩,⟨by show _<=k;omega,by show k<=_;omega⟩⟩
theorem PO {w:World}{A B:Nat}{L:List Vs.Pr}(h:Sg w A B L){k:Int}{n:List UInt8}{x l:Int}(hn:n.length<=maxLen)(hk:k=3->l=32/\Bur.isA x=true) :
  Calls Tryz.prog 70 #[sgV A B,.agg #[.int .i64 k,.string ⟨n.toArray⟩,.int .i64 x,.int .i64 l]] w fun e w'=>e=.returned (ev (caF L k n x))/\Below w.heap.size w w':=by
 have b1:=aj (ah w) (.cells #[.map (some A),.map (some B)] 91)
 have b2:=aj b1 (.cells #[.int .i64 k,.string ⟨n.toArray⟩,.int .i64 x,.int .i64 l] 142)
 have b3:=aj b2 (.cells #[.string ⟨n.toArray⟩,.int .i64 x,.int .i64 l] 95)
 unfold sgV
 by_cases h3:k=3
 ·subst h3
  obtain⟨rfl,ha⟩:=hk rfl
  have s3:=h.step b3
  have lb0:=Lb.new ((w.alloc (.cells #[.map (some A),.map (some B)] 91)).alloc (.cells #[.int .i64 3,.string ⟨n.toArray⟩,.int .i64 x,.int .i64 32] 142)) 95 n x 32
  have q0:(((w.alloc (.cells #[.map (some A),.map (some B)] 91)).alloc (.cells #[.int .i64 3,.string ⟨n.toArray⟩,.int .i64 x,.int .i64 32] 142)).alloc (.cells #[.string ⟨n.toArray⟩,.int .i64 x,.int .i64 32] 95)).cell? ⟨w.heap.size,0,none⟩=some (.map (some A)):=by go_simp
  have q1:(((w.alloc (.cells #[.map (some A),.map (some B)] 91)).alloc (.cells #[.int .i64 3,.string ⟨n.toArray⟩,.int .i64 x,.int .i64 32] 142)).alloc (.cells #[.string ⟨n.toArray⟩,.int .i64 x,.int .i64 32] 95)).cell? ⟨w.heap.size,1,none⟩=some (.map (some B)):=by go_simp
  have hsz3:(((w.alloc (.cells #[.map (some A),.map (some B)] 91)).alloc (.cells #[.int .i64 3,.string ⟨n.toArray⟩,.int .i64 x,.int .i64 32] 142)).alloc (.cells #[.string ⟨n.toArray⟩,.int .i64 x,.int .i64 32] 95)).heap.size=w.heap.size+3:=by simp
  have ST:Hid _:=And.intro s3 (And.intro lb0 (And.intro q0 (And.intro q1 (And.intro b3 hsz3))))
  clear s3 lb0 q0 q1 b1 b2 b3 hsz3
  go_enter Tryz.func70,Tryz.ntmps70
  go_wp2
  go_loopw [5,6] (fun er o wr=>∃(b:Nat),o=.pointer (some ⟨b,0,none⟩)/\w.heap.size<b/\Sg wr A B L/\wr.cell? ⟨w.heap.size,0,none⟩=some (.map (some A))/\wr.cell? ⟨w.heap.size,1,none⟩=some (.map (some B))/\Below w.heap.size w wr/\((er=.nilIface /\ ∃j:Nat,j<=32/\Lb wr b n (Bur.upP x j).1 j/\Hid (∀i:Int,(j:Int)<i->i<=32->Bur.qF L n (Bur.upP x i)=false)) \/ (∃f,f≠0/\er=aC f/\Hid (∀i:Int,0<=i->i<=32->Bur.qF L n (Bur.upP x i)=false)))) (fun er o wr=>lpN wr er o)
  case atStart=>
   obtain⟨s3,lb0,q0,q1,b3,hsz3⟩:=ST.out
   have e32:(Bur.upP x ((32:Nat):Int)).1=x:=congrArg Prod.fst (Bur.aan x)
   rw[World.size_alloc,World.size_alloc] at lb0
   exact⟨w.heap.size+1+1,rfl,by omega,s3,q0,q1,b3,.inl ⟨rfl,32,Nat.le_refl _,by rw[e32];exact lb0,fun i h1 h2=>by omega⟩⟩
  case round=>
   obtain⟨b,rfl,hbw,sg,q0,q1,hbe,hor⟩:=hrel
   clear ST
   rcases hor with ⟨rfl,j,hj,lb,hno⟩|⟨f,hf,rfl,hno⟩
   ·have KH:=adw sg (x:=(Bur.upP x j).1) (l:=(j:Int)) (ahZ hn ha (by omega) (by omega))
    have hm:lpN wr .nilIface (.pointer (some ⟨b,0,none⟩))=j+1:=by
     show (intOf ((wr.cell? ⟨b,2,none⟩).getD (.int .i64 0))).toNat+1=_
     rw[lb.c2]
     show (j:Int).toNat+1=j+1
     omega
    have HM:Hid _:=hm
    clear hm
    unfold sgV at KH
    have KH':Calls Tryz.prog 40 #[.agg #[.map (some A),.map (some B)],.agg #[.string ⟨n.toArray⟩,.int .i64 (Bur.upP x j).1,.int .i64 (j:Int)]] wr fun e w'=>e=.returned (.bool (Bur.qF L n (Bur.upP x j)))/\Below wr.heap.size wr w':=KH
    clear KH
    obtain⟨d0,d1,d2,_,_⟩:=lb
    cases hq:Bur.qF L n (Bur.upP x j) with
    | true=>
     rw[hq] at KH'
     have hA:Hid (caF L 3 n x=0):=by
      show _=_
      unfold caF
      rw[if_neg (fun q=>by have:=(Bur.Ur L n (a:=x)).2 ⟨(j:Int),by omega,by omega,hq⟩;rw[this] at q;cases q.2)]
     clear hq hno
     go_wp2_with (go_at_call 40;refine KH'.mono ?_;rintro e w2 ⟨rfl,hb2⟩)
     go_ret
     exact⟨by rw[hA.out];rfl,ak hbe hb2⟩
    | false=>
     rw[hq] at KH'
     have hno2:Hid (∀i:Int,(j:Int)<=i->i<=32->Bur.qF L n (Bur.upP x i)=false):=fun i h1 h2=>by
      by_cases e:(j:Int)=i
      ·rw[<- e];exact hq
      ·exact hno.out i (by omega) h2
     have KU:=fun W=>ae0 (Bur.upP x j).1 (j:Int) W
     clear hq hno
     by_cases hj0:j=0
     ·subst hj0
      have hF:Hid _:=Bur.aag x
      have KU':∀W:World,Calls Tryz.prog 121 #[pfx (Bur.upP x 0).1 0] W fun e w'=>e=.returned (.tuple #[pfx (Bur.upA (Bur.upP x 0).1 0) (Bur.upL (Bur.upP x 0).1 0),aC (Bur.upF (Bur.upP x 0).1 0)])/\Below W.heap.size W w':=fun W=>by
       have:=KU W
       rw[ay (show Bur.upF (Bur.upP x ((0:Nat):Int)).1 ((0:Nat):Int)≠0 from hF.out)] at this
       exact this
      have d1':wr.cell? ⟨b,1,none⟩=some (.int .i64 (Bur.upP x 0).1):=d1
      have d2':wr.cell? ⟨b,2,none⟩=some (.int .i64 0):=d2
      have KH2:Calls Tryz.prog 40 #[.agg #[.map (some A),.map (some B)],.agg #[.string ⟨n.toArray⟩,.int .i64 (Bur.upP x 0).1,.int .i64 0]] wr fun e w'=>e=.returned (.bool false)/\Below wr.heap.size wr w':=KH'
      clear KU KH' d1 d2
      generalize hX:(Bur.upP x 0).1=X at *
      generalize Bur.upA X 0=U at KU'
      generalize Bur.upL X 0=V at KU'
      generalize hG:Bur.upF X 0=G at KU'
      have hG0:Hid (G≠0):=by show G≠0;rw[<- hG];exact hF.out
      clear hG hX hF
      go_wp2_with (first
       | (go_at_call 40;refine KH2.mono ?_;rintro e w2 ⟨rfl,hb2⟩;have sg2:=sg.step hb2;have e0:=(hb2.cell (p:=⟨b,0,none⟩) (World.block_lt_of_cell? _ _ d0)).trans d0;have e1:=(hb2.cell (p:=⟨b,1,none⟩) (World.block_lt_of_cell? _ _ d1')).trans d1';have e2:=(hb2.cell (p:=⟨b,2,none⟩) (World.block_lt_of_cell? _ _ d2')).trans d2';have hbe2:=ak hbe hb2;have hs2:=hbe2.size;have g0:=(hb2.cell (p:=⟨w.heap.size,0,none⟩) (World.block_lt_of_cell? _ _ q0)).trans q0;have g1:=(hb2.cell (p:=⟨w.heap.size,1,none⟩) (World.block_lt_of_cell? _ _ q1)).trans q1;have gw:w.heap.size<w2.heap.size:=World.block_lt_of_cell? _ _ g0;have lbn:=Lb.new w2 95 n X 0)
       | (go_at_call 121;refine (KU' _).mono ?_;rintro e w3 ⟨rfl,hb3⟩;have lb3:=lbn.step hb3;have bal:=aj (ah w2) (.cells #[.string ⟨n.toArray⟩,.int .i64 X,.int .i64 0] 95);have sg3:=(sg2.step bal).step hb3;have hbe3:=ak (aj hbe2 (.cells #[.string ⟨n.toArray⟩,.int .i64 X,.int .i64 0] 95)) hb3;have k0:=(hb3.cell (p:=⟨w.heap.size,0,none⟩) (by simp;omega)).trans ((bal.cell (p:=⟨w.heap.size,0,none⟩) gw).trans g0);have k1:=(hb3.cell (p:=⟨w.heap.size,1,none⟩) (by simp;omega)).trans ((bal.cell (p:=⟨w.heap.size,1,none⟩) gw).trans g1);obtain⟨m0,m1,m2,mf1,mf2⟩:=lb3))
      have hnw:w.heap.size≠w2.heap.size:=by omega
      obtain⟨lA,lB⟩:=sg2.lt
      exact⟨⟨w2.heap.size,rfl,gw,(sg3.set (by omega) (by omega) _ _).set (by omega) (by omega) _ _,pY (pY k0 hnw) hnw,pY (pY k1 hnw) hnw,(hbe3.setCell (by show w.heap.size<=w2.heap.size;omega) _).setCell (by show w.heap.size<=w2.heap.size;omega) _,.inr ⟨G,hG0.out,rfl,fun i h1 h2=>hno2.out i (by simpa using h1) h2⟩⟩,by rw[HM.out];show 0<_;omega⟩
     ·obtain⟨u1,u2⟩:=Bur.aeF ha (k:=(j:Int)) (by omega) (by omega)
      have u1:Bur.upF (Bur.upP x j).1 (j:Int)=0:=u1
      have u3:Bur.upA (Bur.upP x j).1 (j:Int)=(Bur.upP x ((j:Int) - 1)).1:=congrArg Prod.fst u2
      have u4:Bur.upL (Bur.upP x j).1 (j:Int)=(j:Int) - 1:=congrArg Prod.snd u2
      rw[u1,u3,u4,aB] at KU
      have KU':=KU
      clear u1 u2 u3 u4 KU
      generalize (Bur.upP x j).1=X at *
      go_wp2_with (first
       | (go_at_call 40;refine KH'.mono ?_;rintro e w2 ⟨rfl,hb2⟩;have sg2:=sg.step hb2;have e0:=(hb2.cell (p:=⟨b,0,none⟩) (World.block_lt_of_cell? _ _ d0)).trans d0;have e1:=(hb2.cell (p:=⟨b,1,none⟩) (World.block_lt_of_cell? _ _ d1)).trans d1;have e2:=(hb2.cell (p:=⟨b,2,none⟩) (World.block_lt_of_cell? _ _ d2)).trans d2;have hbe2:=ak hbe hb2;have hs2:=hbe2.size;have g0:=(hb2.cell (p:=⟨w.heap.size,0,none⟩) (World.block_lt_of_cell? _ _ q0)).trans q0;have g1:=(hb2.cell (p:=⟨w.heap.size,1,none⟩) (World.block_lt_of_cell? _ _ q1)).trans q1;have gw:w.heap.size<w2.heap.size:=World.block_lt_of_cell? _ _ g0;have lbn:=Lb.new w2 95 n X (j:Int))
       | (go_at_call 121;refine (KU' _).mono ?_;rintro e w3 ⟨rfl,hb3⟩;have lb3:=lbn.step hb3;have bal:=aj (ah w2) (.cells #[.string ⟨n.toArray⟩,.int .i64 X,.int .i64 (j:Int)] 95);have sg3:=(sg2.step bal).step hb3;have hbe3:=ak (aj hbe2 (.cells #[.string ⟨n.toArray⟩,.int .i64 X,.int .i64 (j:Int)] 95)) hb3;have k0:=(hb3.cell (p:=⟨w.heap.size,0,none⟩) (by simp;omega)).trans ((bal.cell (p:=⟨w.heap.size,0,none⟩) gw).trans g0);have k1:=(hb3.cell (p:=⟨w.heap.size,1,none⟩) (by simp;omega)).trans ((bal.cell (p:=⟨w.heap.size,1,none⟩) gw).trans g1);have lb4:=lb3.put (Bur.upP x ((j:Int) - 1)).1 ((j:Int) - 1);obtain⟨m0,m1,m2,mf1,mf2⟩:=lb3))
      have hnw:w.heap.size≠w2.heap.size:=by omega
      obtain⟨lA,lB⟩:=sg2.lt
      have hjj:((j - 1:Nat):Int)=(j:Int) - 1:=by omega
      have lb5:=lb4
      rw[<- hjj] at lb5
      refine⟨⟨w2.heap.size,rfl,gw,(sg3.set (by omega) (by omega) _ _).set (by omega) (by omega) _ _,pY (pY k0 hnw) hnw,pY (pY k1 hnw) hnw,(hbe3.setCell (by show w.heap.size<=w2.heap.size;omega) _).setCell (by show w.heap.size<=w2.heap.size;omega) _,.inl ⟨rfl,j - 1,by omega,by rw[<- hjj];exact lb5,fun i h1 h2=>hno2.out i (by omega) h2⟩⟩,?_⟩
      rw[HM.out]
      show (intOf ((World.cell? _ ⟨w2.heap.size,2,none⟩).getD (.int .i64 0))).toNat+1<_
      rw[lb4.c2]
      show ((j:Int) - 1).toNat+1<_
      omega
   ·have hA:Hid (caF L 3 n x=7):=by
     have e0:Bur.Pj L n x=false:=by
      cases e:Bur.Pj L n x with
      | false=>rfl
      | true=>
       obtain⟨i,i0,i1,hi⟩:=(Bur.Ur L n (a:=x)).1 e
       rw[hno.out i i0 i1] at hi;cases hi
     exact if_pos ⟨rfl,e0⟩
    clear hno
    go_wp2
    go_ret
    exact⟨by rw[hA.out];rfl,hbe⟩
 ·have hA:Hid (caF L k n x=0):=if_neg (fun q=>h3 q.1)
  have h3':(k != 3)=true:=by simp[h3]
  clear hk h3
  go_enter Tryz.func70,Tryz.ntmps70
  go_wp2
  go_ret
  exact⟨by rw[hA.out];rfl,b2⟩
theorem agO (w:World)(n:Nat)(hn:n=w.heap.size):((w.alloc (.map #[] 0)).alloc (.map #[] 0)).ownsMap Tryz.prog 9 (unitElem (H:=Unit)) n 0 (nD [])/\((w.alloc (.map #[] 0)).alloc (.map #[] 0)).ownsMap Tryz.prog 95 (unitElem (H:=Unit)) (n+1) 0 (lD []):=by
 subst hn
 refine⟨(World.ownsMap_made w _ _ _).alloc _,?_⟩
 have:=World.ownsMap_made (w.alloc (.map #[] 0)) Tryz.prog 95 (unitElem (H:=Unit))
 rwa [World.size_alloc] at this
theorem Y9 (L:List Vs.Pr)(p:Option Addr)(cap:Nat)(w:World)(hp:sH w p L)(hl:L.length<=1000)(hk:∀x∈L,x.1.size<4294967281)(hm:rP w) :
  Calls Tryz.prog 38 #[.slice p L.length cap] w fun e w'=>∃a b,e=.returned (sgV a b)/\Sg w' a b L/\Below w.heap.size w w':=by
 have hmm:=@run_makeMap Tryz.prog
 obtain⟨n0,hn0⟩:∃n0,n0=w.heap.size:=⟨_,rfl⟩
 obtain⟨W1,hW1⟩:∃W1,W1=(((w.alloc (.cells #[.map none,.map none] 91)).alloc (.map #[] 0)).alloc (.map #[] 0)).alloc (.cells #[.map (some (n0+1)),.map (some (n0+2))] 91):=⟨_,rfl⟩
 have b1:Below n0 w W1:=by rw[hW1,hn0];exact aj (aj (aj (aj (ah w) _) _) _) _
 have r0:W1.cell? ⟨n0,0,none⟩=some (.map none):=by rw[hW1,hn0];go_simp
 have r1:W1.cell? ⟨n0,1,none⟩=some (.map none):=by rw[hW1,hn0];go_simp
 have f0:W1.frozen? ⟨n0,0,none⟩=false:=by rw[hW1,hn0];go_simp
 have f1:W1.frozen? ⟨n0,1,none⟩=false:=by rw[hW1,hn0];go_simp
 have s0:W1.cell? ⟨n0+3,0,none⟩=some (.map (some (n0+1))):=by rw[hW1,hn0];go_simp
 have s1:W1.cell? ⟨n0+3,1,none⟩=some (.map (some (n0+2))):=by rw[hW1,hn0];go_simp
 have hsz:W1.heap.size=n0+4:=by rw[hW1,hn0];simp
 obtain⟨g1,g2⟩:=agO (w.alloc (.cells #[.map none,.map none] 91)) (n0+1) (by rw[hn0];simp)
 have o1:W1.ownsMap Tryz.prog 9 (unitElem (H:=Unit)) (n0+1) 0 (nD []):=by rw[hW1];exact g1.alloc _
 have o2:W1.ownsMap Tryz.prog 95 (unitElem (H:=Unit)) (n0+2) 0 (lD []):=by rw[hW1];exact g2.alloc _
 clear g1 g2
 have ST:Hid (W1=_):=hW1
 have HN:Hid (n0=w.heap.size):=hn0
 have HZ:Hid (W1.heap.size=n0+4):=hsz
 have CB:Hid _:=And.intro r0 (And.intro r1 (And.intro f0 (And.intro f1 (And.intro s0 s1))))
 clear hsz r0 r1 f0 f1 s0 s1
 rw[hn0] at hW1
 subst hn0
 go_enter Tryz.func38,Tryz.ntmps38
 go_wp2
 rw[<- hW1]
 clear hW1
 go_loopw [13] (fun i wr=>∃k:Nat,k<=L.length/\i=.int .i64 k/\wr.ownsMap Tryz.prog 9 (unitElem (H:=Unit)) (w.heap.size+1) k (nD (L.take k))/\wr.ownsMap Tryz.prog 95 (unitElem (H:=Unit)) (w.heap.size+2) k (lD (L.take k))/\Hid (wr.heap[w.heap.size]? = W1.heap[w.heap.size]? /\ wr.heap[w.heap.size+3]? = W1.heap[w.heap.size+3]? /\ w.heap.size+4<=wr.heap.size)/\Below w.heap.size w wr) (fun i _=>L.length - (intOf i).toNat)
 case atStart=>exact⟨0,by omega,rfl,o1,o2,⟨rfl,rfl,by rw[HZ.out];exact Nat.le_refl _⟩,b1⟩
 case round=>
  obtain⟨k,hkl,rfl,m1,m2,hK,hb⟩:=hrel
  clear o1 o2 b1
  obtain⟨hB0,hB3,hS⟩:=hK.out
  have s0:wr.cell? ⟨w.heap.size+3,0,none⟩=some (.map (some (w.heap.size+1))):=(World.cell?_of_block hB3).trans CB.out.2.2.2.2.1
  have s1:wr.cell? ⟨w.heap.size+3,1,none⟩=some (.map (some (w.heap.size+2))):=(World.cell?_of_block hB3).trans CB.out.2.2.2.2.2
  by_cases hlt:k<L.length
  ·have hlt':(k:Int)<(L.length:Int):=by omega
   obtain⟨x,hx⟩:∃x,L[k]? = some x:=⟨L[k],List.getElem?_eq_getElem hlt⟩
   obtain⟨b,off,rfl,hbl,hc⟩:=(hp.step hb) (by omega)
   obtain⟨d0,d1⟩:=hc k x hx
   have hkx:=hk x (List.mem_of_getElem? hx)
   have tn:=Bur.XR L k x hx
   have tl:=Bur.Zz L k x hx
   obtain⟨W,hW⟩:∃W,W=wr.alloc (.cells #[.string x.1,.string x.2] 84):=⟨_,rfl⟩
   have bW:Below wr.heap.size wr W:=by rw[hW];exact aj (ah _) _
   have KR:=QN x.1.data.toList W (by have:x.1.data.toList.length=x.1.size:=Array.length_toList
                                     omega) (hm.step (ak hb bW))
   rw[show (⟨x.1.data.toList.toArray⟩:ByteArray)=x.1 from by cases x.1;simp] at KR
   have KR':Calls Tryz.prog 68 #[.string x.1] W fun e w'=>e=.returned (.tuple #[enA (Bur.ek x),enE (Bur.ek x)])/\Below W.heap.size W w':=KR
   clear KR
   -- what stands behind read
   have go1:∀w3:World,Below W.heap.size W w3->Below wr.heap.size wr w3:=fun w3 h3=>ak bW h3
   have hSW:wr.heap.size<W.heap.size:=by rw[hW];simp
   cases hE:Bur.ek x with
   | none=>
    rw[hE] at KR'
    have t1:Bur.nt1 x=none:=by unfold Bur.nt1;rw[hE]
    have t2:Bur.lt1 x=none:=by unfold Bur.lt1;rw[hE]
    rw[t1,Option.toList_none,List.append_nil] at tn
    rw[t2,Option.toList_none,List.append_nil] at tl
    have KR2:Calls Tryz.prog 68 #[.string x.1] W fun e w'=>e=.returned (.tuple #[.agg #[.int .i64 0,.string ⟨#[]⟩,.int .i64 0,.int .i64 0],aC 5])/\Below W.heap.size W w':=KR'
    have T1:Hid _:=And.intro tn tl
    clear KR' tn tl t1 t2 hE hc hx
    go_wp2_with (go_at_call 68;rw[<- hW];refine KR2.mono ?_;clear KR2;rintro e w3 ⟨rfl,hb3⟩)
    have hb4:=aj (go1 w3 hb3) (.cells #[.int .i64 0,.string ⟨#[]⟩,.int .i64 0,.int .i64 0] 142)
    exact⟨⟨k+1,by omega,by go_num,by unfold nD;rw[T1.out.1];exact (Ha.dJ m1 hb4).mono (Nat.le_succ _),by unfold lD;rw[T1.out.2];exact (Ha.dJ m2 hb4).mono (Nat.le_succ _),⟨(hb4.block _ (by omega)).trans hB0,(hb4.block _ (by omega)).trans hB3,by have:=hb4.size;omega⟩,ak hb hb4⟩,by simp[intOf];omega⟩
   | some e=>
    obtain⟨kd,n,q⟩:=e
    rw[hE] at KR'
    have hN:=Bur.Aa (Bur.Rn hE)
    have hn8:n.length<=8:=hN.2.1
    have KR2:Calls Tryz.prog 68 #[.string x.1] W fun e w'=>e=.returned (.tuple #[.agg #[.int .i64 kd,.string ⟨n.toArray⟩,.int .i64 q.1,.int .i64 q.2],.nilIface])/\Below W.heap.size W w':=KR'
    clear KR'
    by_cases c1:kd=1
    ·subst c1
     have t1:Bur.nt1 x=some n:=Bur.Uj.2 ⟨q,hE⟩
     have t2:Bur.lt1 x=none:=by unfold Bur.lt1;rw[hE];rfl
     rw[t1,Option.toList_some] at tn
     rw[t2,Option.toList_none,List.append_nil] at tl
     have T1:Hid _:=And.intro tn tl
     have hkey:=keyS (n:=n) (by unfold maxLen;omega)
     clear tn tl t1 t2 hE hc hx
     go_wp2_with (first
      | (go_at_call 68;rw[<- hW];refine KR2.mono ?_;clear KR2;rintro e w3 ⟨rfl,hb3⟩;have hb4:=aj (go1 w3 hb3) (.cells #[.int .i64 1,.string ⟨n.toArray⟩,.int .i64 q.1,.int .i64 q.2] 142);have s04:=(hb4.cell (p:=⟨w.heap.size+3,0,none⟩) (by show w.heap.size+3<_;omega)).trans s0;have m14:=Ha.dJ m1 hb4;have m24:=Ha.dJ m2 hb4;have hs3:=(go1 w3 hb3).size)
      | (at_mapUpdate;refine wpList_mapUpdate_own _ rfl _ _ _ 88 rfl 9 145 Zq Tryz.underlying88 (unitElem (H:=Unit)) (w.heap.size+1) k _ rfl m14 (by unfold maxLen;omega) _ _ _ rfl rfl hkey _ [] unitElem_mk ?_;intro w5 hown1 hgrow1)
      | go_in)
     exact⟨⟨k+1,by omega,by go_num,by unfold nD;rw[T1.out.1,List.map_append,List.map_singleton,setOf_snoc];exact hown1,by unfold lD;rw[T1.out.2];exact (m24.kept hgrow1 (by simp)).mono (Nat.le_succ _),⟨(hgrow1.block _ (by have:=hb4.size;omega) (by simp)).trans ((hb4.block _ (by omega)).trans hB0),(hgrow1.block _ (by have:=hb4.size;omega) (by simp)).trans ((hb4.block _ (by omega)).trans hB3),by have:=hb4.size;have:=hgrow1.size;omega⟩,(ak hb hb4).grown hgrow1 (by have:=hb4.size;omega) (fun j hj=>by cases hj;omega)⟩,by simp[intOf];omega⟩
    ·by_cases c2:kd=2
     ·subst c2
      have t1:Bur.nt1 x=none:=by unfold Bur.nt1;rw[hE];rfl
      have t2:Bur.lt1 x=some (n,q):=Bur.Nb.2 hE
      rw[t1,Option.toList_none,List.append_nil] at tn
      rw[t2,Option.toList_some] at tl
      have T1:Hid _:=And.intro tn tl
      have hq:=Bur.bn (Bur.iq (Bur.qg hE).1)
      have hkey:keyOf Tryz.prog 95 (.agg #[.string ⟨n.toArray⟩,.int .i64 q.1,.int .i64 q.2])=some (ltK (n,q)):=acS ⟨by show n.length<=_;unfold maxLen;omega,⟨by show _<=q.1;omega,by show q.1<=_;omega⟩,⟨by show _<=q.2;omega,by show q.2<=_;omega⟩⟩
      clear tn tl t1 t2 hE hc hx hq c1
      go_wp2_with (first
       | (go_at_call 68;rw[<- hW];refine KR2.mono ?_;clear KR2;rintro e w3 ⟨rfl,hb3⟩;have hb4:=aj (go1 w3 hb3) (.cells #[.int .i64 2,.string ⟨n.toArray⟩,.int .i64 q.1,.int .i64 q.2] 142);have s14:=(hb4.cell (p:=⟨w.heap.size+3,1,none⟩) (by show w.heap.size+3<_;omega)).trans s1;have m14:=Ha.dJ m1 hb4;have m24:=Ha.dJ m2 hb4;have hs3:=(go1 w3 hb3).size)
       | (at_mapUpdate;refine wpList_mapUpdate_own _ rfl _ _ _ 89 rfl 95 145 QD Tryz.underlying89 (unitElem (H:=Unit)) (w.heap.size+2) k _ rfl m24 (by unfold maxLen;omega) _ _ _ rfl rfl hkey _ [] unitElem_mk ?_;intro w5 hown1 hgrow1)
       | go_in)
      exact⟨⟨k+1,by omega,by go_num,by unfold nD;rw[T1.out.1];exact (m14.kept hgrow1 (by simp)).mono (Nat.le_succ _),by unfold lD;rw[T1.out.2,List.map_append,List.map_singleton,setOf_snoc];exact hown1,⟨(hgrow1.block _ (by have:=hb4.size;omega) (by simp)).trans ((hb4.block _ (by omega)).trans hB0),(hgrow1.block _ (by have:=hb4.size;omega) (by simp)).trans ((hb4.block _ (by omega)).trans hB3),by have:=hb4.size;have:=hgrow1.size;omega⟩,(ak hb hb4).grown hgrow1 (by have:=hb4.size;omega) (fun j hj=>by cases hj;omega)⟩,by simp[intOf];omega⟩
     ·have t1:Bur.nt1 x=none:=by unfold Bur.nt1;rw[hE];exact if_neg c1
      have t2:Bur.lt1 x=none:=by unfold Bur.lt1;rw[hE];exact if_neg c2
      rw[t1,Option.toList_none,List.append_nil] at tn
      rw[t2,Option.toList_none,List.append_nil] at tl
      have T1:Hid _:=And.intro tn tl
      have c1':(kd==1)=false:=beq_eq_false_iff_ne.2 c1
      have c2':(kd==2)=false:=beq_eq_false_iff_ne.2 c2
      clear tn tl t1 t2 hE hc hx
      go_wp2_with (go_at_call 68;rw[<- hW];refine KR2.mono ?_;clear KR2;rintro e w3 ⟨rfl,hb3⟩)
      have hb4:=aj (go1 w3 hb3) (.cells #[.int .i64 kd,.string ⟨n.toArray⟩,.int .i64 q.1,.int .i64 q.2] 142)
      exact⟨⟨k+1,by omega,by go_num,by unfold nD;rw[T1.out.1];exact (Ha.dJ m1 hb4).mono (Nat.le_succ _),by unfold lD;rw[T1.out.2];exact (Ha.dJ m2 hb4).mono (Nat.le_succ _),⟨(hb4.block _ (by omega)).trans hB0,(hb4.block _ (by omega)).trans hB3,by have:=hb4.size;omega⟩,ak hb hb4⟩,by simp[intOf];omega⟩
  ·have hlt':¬(k:Int)<(L.length:Int):=by omega
   have hE:k=L.length:=by omega
   rw[hE,List.take_length] at m1 m2
   have r0:wr.cell? ⟨w.heap.size,0,none⟩=some (.map none):=(World.cell?_of_block hB0).trans CB.out.1
   have r1:wr.cell? ⟨w.heap.size,1,none⟩=some (.map none):=(World.cell?_of_block hB0).trans CB.out.2.1
   have f0:wr.frozen? ⟨w.heap.size,0,none⟩=false:=(World.frozen?_of_block hB0).trans CB.out.2.2.1
   have f1:wr.frozen? ⟨w.heap.size,1,none⟩=false:=(World.frozen?_of_block hB0).trans CB.out.2.2.2.1
   have sg:Sg wr (w.heap.size+1) (w.heap.size+2) L:=⟨m1,m2⟩
   have SG:Hid _:=(sg.set (b:=w.heap.size) (by omega) (by omega) 0 (.map (some (w.heap.size+1)))).set (b:=w.heap.size) (by omega) (by omega) 1 (.map (some (w.heap.size+2)))
   clear m1 m2 sg hE hB0 hB3 hK
   go_wp2
   exact bodyPost_ret (v:=sgV (w.heap.size+1) (w.heap.size+2)) (by simp[results,Tryz.results38,go_sem,sgV,bQ r0 r1]) rfl ⟨_,_,rfl,SG.out,(hb.setCell (Nat.le_refl _) _).setCell (Nat.le_refl _) _⟩
end Go.Proofs.YtmghmpclmphccaaGreatDoor.Au
namespace Bur
theorem acd {L:List Vs.Pr}{c:Option ByteArray}{x:Vs.Pr}(hx:x∈L) :
  (ek x=none -> ∀a b:Int,fnz [plE c x.1,5,nmF x.2.data.toList,a,b]=auE L c x) ∧
  (∀e,ek x=some e->fnz [plE c x.1,0,nmF x.2.data.toList,(if xY L e.2.1=true then 0 else 4),(if e.1=3/\Pj L e.2.1 e.2.2.1=false then 7 else 0)]=auE L c x):=by
 constructor
 ·intro h a b
  unfold auE
  rw[h]
  by_cases h0:plE c x.1=0
  ·simp[fnz,h0]
  ·simp[fnz,h0]
 ·intro e h
  unfold auE
  rw[h]
  simp only
  have hself:e.1=1->xY L e.2.1=true:=fun h1=>by
   unfold xY
   rw[List.any_eq_true]
   exact⟨x,hx,qP.2 ⟨e.2.2,by rw[h,<- h1],rfl⟩⟩
  by_cases h0:plE c x.1=0
  ·by_cases hn:isN x.2.data.toList=true
   ·by_cases h1:e.1=1
    ·have:=hself h1
     have h3:¬e.1=3:=by omega
     simp[fnz,h0,nmF,hn,this,h1]
    ·by_cases h2:xY L e.2.1=true
     ·simp[fnz,h0,nmF,hn,h2,h1]
     ·simp[fnz,h0,nmF,hn,h2,h1]
   ·simp[fnz,h0,nmF,hn]
  ·simp[fnz,h0]
end Bur
namespace Go.Proofs.YtmghmpclmphccaaGreatDoor.Au
open Go.RowKit Go.Maps Pa
structure Eb (w:World)(b:Nat)(k:Int)(n:List UInt8)(x l:Int):Prop where
 c0:w.cell? ⟨b,0,none⟩=some (.int .i64 k)
 c1:w.cell? ⟨b,1,none⟩=some (.string ⟨n.toArray⟩)
 c2:w.cell? ⟨b,2,none⟩=some (.int .i64 x)
 c3:w.cell? ⟨b,3,none⟩=some (.int .i64 l)
theorem Eb.lt {w:World}{b:Nat}{k:Int}{n:List UInt8}{x l:Int}(h:Eb w b k n x l):b<w.heap.size:=World.block_lt_of_cell? _ _ h.c0
theorem Eb.step {w w':World}{b:Nat}{k:Int}{n:List UInt8}{x l:Int}(h:Eb w b k n x l)(hb:Below w.heap.size w w'):Eb w' b k n x l:=
 ⟨(hb.cell (p:=⟨b,0,none⟩) h.lt).trans h.c0,(hb.cell (p:=⟨b,1,none⟩) h.lt).trans h.c1,(hb.cell (p:=⟨b,2,none⟩) h.lt).trans h.c2,(hb.cell (p:=⟨b,3,none⟩) h.lt).trans h.c3⟩
structure Rd1 (w:World)(S P E A B:Nat)(L:List Vs.Pr)(p:Option Addr)(v:ByteArray)(k:Int)(n:List UInt8)(x l:Int):Prop where
 s0:w.cell? ⟨S,0,none⟩=some (.map (some A))
 s1:w.cell? ⟨S,1,none⟩=some (.map (some B))
 p1:w.cell? ⟨P,1,none⟩=some (.string v)
 e:Eb w E k n x l
 g:Sg w A B L
 l:sH w p L
theorem Rd1.step {w w':World}{S P E A B:Nat}{L:List Vs.Pr}{p:Option Addr}{v:ByteArray}{k:Int}{n:List UInt8}{x l:Int}(h:Rd1 w S P E A B L p v k n x l)(hb:Below w.heap.size w w'):Rd1 w' S P E A B L p v k n x l:=
 ⟨(hb.cell (p:=⟨S,0,none⟩) (World.block_lt_of_cell? _ _ h.s0)).trans h.s0,(hb.cell (p:=⟨S,1,none⟩) (World.block_lt_of_cell? _ _ h.s1)).trans h.s1,(hb.cell (p:=⟨P,1,none⟩) (World.block_lt_of_cell? _ _ h.p1)).trans h.p1,h.e.step hb,h.g.step hb,h.l.step hb⟩
theorem RY (w:World)(t:Nat)(a b c d e:Int):∀(i:Nat) (f:Int),[a,b,c,d,e][i]? = some f->(w.alloc (.cells #[ev a,ev b,ev c,ev d,ev e] t)).cell? ⟨w.heap.size,i,none⟩=some (ev f)
 | 0,f,h=>by simp at h;subst h;simp
 | 1,f,h=>by simp at h;subst h;simp
 | 2,f,h=>by simp at h;subst h;simp
 | 3,f,h=>by simp at h;subst h;simp
 | 4,f,h=>by simp at h;subst h;simp
 | i+5,f,h=>by simp at h
theorem jf (f:Int):∃v:Value,Hid (v=ev f)/\v.cells=#[v]:=⟨ev f,rfl,by unfold ev;split <;> rfl⟩
theorem PK (L:List Vs.Pr)(p:Option Addr)(cap A B:Nat)(w:World)(hg:Sg w A B L)(hp:sH w p L)(hl:L.length<=1000)(hk:∀x∈L,x.1.size<4294967281)(hm:rP w) :
  Calls Tryz.prog 39 #[sgV A B,.slice p L.length cap] w fun e w'=>e=.returned (.tuple #[.int .i64 (Bur.auP L).1,ev (Bur.auP L).2])/\Below w.heap.size w w':=by
 obtain⟨R,hR⟩:∃R,R=Bur.auP L:=⟨_,rfl⟩
 have hR0:Hid (R=Bur.auG L (L.length - 0) 0):=hR
 rw[<- hR]
 have b0:=aj (ah w) (.cells #[.map (some A),.map (some B)] 91)
 have s0:(w.alloc (.cells #[.map (some A),.map (some B)] 91)).cell? ⟨w.heap.size,0,none⟩=some (.map (some A)):=by simp
 have s1:(w.alloc (.cells #[.map (some A),.map (some B)] 91)).cell? ⟨w.heap.size,1,none⟩=some (.map (some B)):=by simp
 have ST:Hid _:=And.intro b0 (And.intro s0 s1)
 clear b0 s0 s1 hR
 unfold sgV
 go_enter Tryz.func39,Tryz.ntmps39
 go_wp2
 go_loopw [13] (fun i wr=>∃k:Nat,k<=L.length/\i=.int .i64 k/\Hid (R=Bur.auG L (L.length - k) k)/\wr.cell? ⟨w.heap.size,0,none⟩=some (.map (some A))/\wr.cell? ⟨w.heap.size,1,none⟩=some (.map (some B))/\Below w.heap.size w wr) (fun i _=>L.length - (intOf i).toNat)
 case atStart=>
  obtain⟨b0,s0,s1⟩:=ST.out
  exact⟨0,by omega,rfl,hR0,s0,s1,b0⟩
 case round=>
  obtain⟨k,hkl,rfl,hM,s0,s1,hb⟩:=hrel
  clear ST hR0
  by_cases hlt:k<L.length
  ·have hlt':(k:Int)<(L.length:Int):=by omega
   obtain⟨x,hx⟩:∃x,L[k]? = some x:=⟨L[k],List.getElem?_eq_getElem hlt⟩
   have hpr:=hp.step hb
   have hp2:=hpr
   obtain⟨b,off,rfl,hbl,hc⟩:=hpr (by omega)
   obtain⟨d0,d1⟩:=hc k x hx
   have hmem:=List.mem_of_getElem? hx
   have hkx:=hk x hmem
   obtain⟨W,hW⟩:∃W,W=wr.alloc (.cells #[.string x.1,.string x.2] 84):=⟨_,rfl⟩
   have bW:Below wr.heap.size wr W:=by rw[hW];exact aj (ah _) _
   have pW:W.cell? ⟨wr.heap.size,1,none⟩=some (.string x.2):=by rw[hW];simp
   have KR:=QN x.1.data.toList W (by have:x.1.data.toList.length=x.1.size:=Array.length_toList
                                     omega) (hm.step (ak hb bW))
   rw[show (⟨x.1.data.toList.toArray⟩:ByteArray)=x.1 from by cases x.1;simp] at KR
   obtain⟨kd,n,xa,xl,f2,hKR,hn,h3,hE⟩:∃(kd:Int) (n:List UInt8) (xa xl f2:Int),(Calls Tryz.prog 68 #[.string x.1] W fun e w'=>e=.returned (.tuple #[.agg #[.int .i64 kd,.string ⟨n.toArray⟩,.int .i64 xa,.int .i64 xl],ev f2])/\Below W.heap.size W w')/\n.length<=maxLen/\(kd=3->xl=32/\Bur.isA xa=true)/\Bur.fnz [Bur.plE (Bur.prv L k) x.1,f2,Bur.nmF x.2.data.toList,fnF L n,caF L kd n xa]=Bur.auE L (Bur.prv L k) x:=by
    obtain⟨z1,z2⟩:=Bur.acd (c:=Bur.prv L k) hmem
    cases hEk:Bur.ek x with
    | none=>
     have hEk':Bur.enK x.1.data.toList=none:=hEk
     rw[hEk'] at KR
     exact⟨0,[],0,0,5,KR,by simp,fun h=>by omega,z1 hEk _ _⟩
    | some e=>
     have hEk':Bur.enK x.1.data.toList=some e:=hEk
     rw[hEk'] at KR
     have hN:=(Bur.Aa (Bur.Rn hEk')).2.1
     refine⟨e.1,e.2.1,e.2.2.1,e.2.2.2,0,KR,by unfold maxLen;omega,fun h=>?_,z2 e hEk⟩
     obtain⟨e1,e2,e3⟩:=e
     have h:e1=3:=h
     subst h
     obtain⟨a,ha,_,rfl⟩:=Bur.qw hEk'
     exact⟨rfl,Bur.zH ha⟩
   have hEA:Bur.yA L k=Bur.fnz [Bur.plE (Bur.prv L k) x.1,f2,Bur.nmF x.2.data.toList,fnF L n,caF L kd n xa]:=by
    unfold Bur.yA
    rw[hx,hE]
   have HA:Hid _:=hEA
   have rd:∀w3:World,Below W.heap.size W w3->Rd1 (w3.alloc (.cells #[.int .i64 kd,.string ⟨n.toArray⟩,.int .i64 xa,.int .i64 xl] 142)) w.heap.size wr.heap.size w3.heap.size A B L (some ⟨b,off,none⟩) x.2 kd n xa xl/\Below wr.heap.size wr (w3.alloc (.cells #[.int .i64 kd,.string ⟨n.toArray⟩,.int .i64 xa,.int .i64 xl] 142)):=fun w3 h3'=>by
    have q:=aj (ak bW h3') (.cells #[.int .i64 kd,.string ⟨n.toArray⟩,.int .i64 xa,.int .i64 xl] 142)
    have q2:=aj h3' (.cells #[.int .i64 kd,.string ⟨n.toArray⟩,.int .i64 xa,.int .i64 xl] 142)
    exact⟨⟨(q.cell (p:=⟨w.heap.size,0,none⟩) (World.block_lt_of_cell? _ _ s0)).trans s0,(q.cell (p:=⟨w.heap.size,1,none⟩) (World.block_lt_of_cell? _ _ s1)).trans s1,(q2.cell (p:=⟨wr.heap.size,1,none⟩) (World.block_lt_of_cell? _ _ pW)).trans pW,⟨by simp,by simp,by simp,by simp⟩,hg.step (ak hb q),hp.step (ak hb q)⟩,q⟩
   have RH:Hid _:=rd
   have K1:=fun W' hp'=>aa9 L (some ⟨b,off,none⟩) cap k x W' hp' hx (by omega)
   have K2:=fun W'=>zW x.2 W'
   have K3:=fun W' (hg':Sg W' A B L)=>Lm hg' hn
   have K4:=fun W' (hg':Sg W' A B L)=>PO hg' hn h3
   unfold sgV at K3 K4
   generalize Bur.plE (Bur.prv L k) x.1=F1 at K1 HA
   generalize Bur.nmF x.2.data.toList=F3 at K2 HA
   generalize fnF L n=F4 at K3 HA
   generalize caF L kd n xa=F5 at K4 HA
   have K5:=fun (W':World)=>Vh [F1,f2,F3,F4,F5] W'.heap.size 5 (W'.alloc (.cells #[ev F1,ev f2,ev F3,ev F4,ev F5] 26)) (RY W' _ F1 f2 F3 F4 F5) (by simp)
   obtain⟨V1,E1,C1⟩:=jf F1
   obtain⟨V2,E2,C2⟩:=jf f2
   obtain⟨V3,E3,C3⟩:=jf F3
   obtain⟨V4,E4,C4⟩:=jf F4
   obtain⟨V5,E5,C5⟩:=jf F5
   unfold Value.cells at C1 C2 C3 C4 C5
   rw[<- E1.out] at K1
   rw[<- E2.out] at hKR
   rw[<- E3.out] at K2
   rw[<- E4.out] at K3
   rw[<- E5.out] at K4
   rw[<- E1.out,<- E2.out,<- E3.out,<- E4.out,<- E5.out] at K5
   clear rd hEA hE h3 hc hkx KR hpr pW bW
   go_wp2_with (go_at_call 68;rw[<- hW];refine hKR.mono ?_;clear hKR;rintro e w3 ⟨rfl,hb3⟩)
   obtain⟨r0,bx⟩:=RH.out w3 hb3
   obtain⟨Z,hZ⟩:∃Z,Z=w3.alloc (.cells #[.int .i64 kd,.string ⟨n.toArray⟩,.int .i64 xa,.int .i64 xl] 142):=⟨_,rfl⟩
   rw[<- hZ] at r0 bx ⊢
   have HZ:Hid _:=hZ
   clear hZ HZ
   by_cases h0:Bur.yA L k=0
   ·have hM2:Hid (R=Bur.auG L (L.length - (k+1)) (k+1)):=by show _=_;rw[hM.out];exact Bur.Xr hlt h0
    rw[<- HA.out,h0,aB] at K5
    clear h0 hM HA
    go_region_held3 (fun wy=>wy.cell? ⟨w.heap.size,0,none⟩=some (.map (some A))/\wy.cell? ⟨w.heap.size,1,none⟩=some (.map (some B))/\wy.cell? ⟨wr.heap.size,1,none⟩=some (.string x.2)/\wy.cell? ⟨w3.heap.size,0,none⟩=some (.int .i64 kd)/\wy.cell? ⟨w3.heap.size,1,none⟩=some (.string ⟨n.toArray⟩)/\wy.cell? ⟨w3.heap.size,2,none⟩=some (.int .i64 xa)/\wy.cell? ⟨w3.heap.size,3,none⟩=some (.int .i64 xl)) (first|exact⟨r4.s0,r4.s1,r4.p1,r4.e.c0,r4.e.c1,r4.e.c2,r4.e.c3⟩|exact⟨r3.s0,r3.s1,r3.p1,r3.e.c0,r3.e.c1,r3.e.c2,r3.e.c3⟩|exact⟨r2.s0,r2.s1,r2.p1,r2.e.c0,r2.e.c1,r2.e.c2,r2.e.c3⟩|exact⟨r1.s0,r1.s1,r1.p1,r1.e.c0,r1.e.c1,r1.e.c2,r1.e.c3⟩|exact⟨r0.s0,r0.s1,r0.p1,r0.e.c0,r0.e.c1,r0.e.c2,r0.e.c3⟩|exact⟨(r4.step (aj (ah _) _)).s0,(r4.step (aj (ah _) _)).s1,(r4.step (aj (ah _) _)).p1,(r4.step (aj (ah _) _)).e.c0,(r4.step (aj (ah _) _)).e.c1,(r4.step (aj (ah _) _)).e.c2,(r4.step (aj (ah _) _)).e.c3⟩)
    (first
     | (go_at_call 69;refine (K1 _ (r0.step (ah _).drew).l).mono ?_;rintro e w4 ⟨rfl,hb4⟩;have r1:=(r0.step (ah _).drew).step hb4)
     | (go_at_call 26;refine (K2 _).mono ?_;rintro e w5 ⟨rfl,hb5⟩;have r2:=r1.step hb5)
     | (go_at_call 44;refine (K3 _ r2.g).mono ?_;rintro e w6 ⟨rfl,hb6⟩;have r3:=r2.step hb6)
     | (go_at_call 70;refine (K4 _ r3.g).mono ?_;rintro e w7 ⟨rfl,hb7⟩;have r4:=r3.step hb7)
     | (go_at_call 43;refine (K5 _).mono ?_;rintro e w8 ⟨rfl,rfl⟩))
    have hbz:=aj (ak (ak (ak (ak bx.drew hb4) hb5) hb6) hb7) (.cells #[V1,V2,V3,V4,V5] 26)
    have hcs:=(r4.step (aj (ah _) (.cells #[V1,V2,V3,V4,V5] 26)))
    go_wp2
    exact⟨⟨k+1,by omega,by go_num,hM2,hcs.s0,hcs.s1,ak hb hbz⟩,by simp[intOf];omega⟩
   ·have hM2:Hid (R=((k:Int),Bur.yA L k)):=by show _=_;rw[hM.out];exact Bur.ae1 hlt h0
    have hE0:Hid (ev (Bur.yA L k)=aC (Bur.yA L k)):=ay h0
    rw[<- HA.out,ay h0] at K5
    clear h0 hM HA
    go_region_held3 (fun wy=>wy.cell? ⟨w.heap.size,0,none⟩=some (.map (some A))/\wy.cell? ⟨w.heap.size,1,none⟩=some (.map (some B))/\wy.cell? ⟨wr.heap.size,1,none⟩=some (.string x.2)/\wy.cell? ⟨w3.heap.size,0,none⟩=some (.int .i64 kd)/\wy.cell? ⟨w3.heap.size,1,none⟩=some (.string ⟨n.toArray⟩)/\wy.cell? ⟨w3.heap.size,2,none⟩=some (.int .i64 xa)/\wy.cell? ⟨w3.heap.size,3,none⟩=some (.int .i64 xl)) (first|exact⟨r4.s0,r4.s1,r4.p1,r4.e.c0,r4.e.c1,r4.e.c2,r4.e.c3⟩|exact⟨r3.s0,r3.s1,r3.p1,r3.e.c0,r3.e.c1,r3.e.c2,r3.e.c3⟩|exact⟨r2.s0,r2.s1,r2.p1,r2.e.c0,r2.e.c1,r2.e.c2,r2.e.c3⟩|exact⟨r1.s0,r1.s1,r1.p1,r1.e.c0,r1.e.c1,r1.e.c2,r1.e.c3⟩|exact⟨r0.s0,r0.s1,r0.p1,r0.e.c0,r0.e.c1,r0.e.c2,r0.e.c3⟩|exact⟨(r4.step (aj (ah _) _)).s0,(r4.step (aj (ah _) _)).s1,(r4.step (aj (ah _) _)).p1,(r4.step (aj (ah _) _)).e.c0,(r4.step (aj (ah _) _)).e.c1,(r4.step (aj (ah _) _)).e.c2,(r4.step (aj (ah _) _)).e.c3⟩)
    (first
     | (go_at_call 69;refine (K1 _ (r0.step (ah _).drew).l).mono ?_;rintro e w4 ⟨rfl,hb4⟩;have r1:=(r0.step (ah _).drew).step hb4)
     | (go_at_call 26;refine (K2 _).mono ?_;rintro e w5 ⟨rfl,hb5⟩;have r2:=r1.step hb5)
     | (go_at_call 44;refine (K3 _ r2.g).mono ?_;rintro e w6 ⟨rfl,hb6⟩;have r3:=r2.step hb6)
     | (go_at_call 70;refine (K4 _ r3.g).mono ?_;rintro e w7 ⟨rfl,hb7⟩;have r4:=r3.step hb7)
     | (go_at_call 43;refine (K5 _).mono ?_;rintro e w8 ⟨rfl,rfl⟩))
    have hbz:=aj (ak (ak (ak (ak bx.drew hb4) hb5) hb6) hb7) (.cells #[V1,V2,V3,V4,V5] 26)
    go_wp2
    go_ret2
    exact⟨by rw[hM2.out];exact congrArg (fun v=>Ending.returned (.tuple #[.int .i64 (k:Int),v])) hE0.out.symm,ak hb hbz⟩
  ·have hlt':¬(k:Int)<(L.length:Int):=by omega
   have hE:Hid (R=(0,0)):=by
    show _=_
    rw[hM.out,show L.length - k=0 from by omega];rfl
   clear hM
   go_wp2
   go_ret2
   exact⟨by rw[hE.out];rfl,hb⟩
