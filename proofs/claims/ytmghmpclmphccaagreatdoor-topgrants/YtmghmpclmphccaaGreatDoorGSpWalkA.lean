/- -/
import Derived.Deep.AppendLies
import Derived.Test.YtmghmpclmphccaaGreatDoorGHsA
set_option maxHeartbeats 4000000
set_option maxRecDepth 100000
namespace Go.Proofs.YtmghmpclmphccaaGreatDoor.Sa
open Go.RowKit
abbrev lo (l:List Bur.Sp)(i:Nat):Int:=(l.getD i (0,0)).1
abbrev hi (l:List Bur.Sp)(i:Nat):Int:=(l.getD i (0,0)).2
def SpC (w:World)(b off:Nat)(l:List Bur.Sp):Prop:=
 ∀i,i<l.length->w.cell? ⟨b,off+i*2,none⟩=some (.int .i64 (lo l i))/\w.cell? ⟨b,off+i*2+1,none⟩=some (.int .i64 (hi l i))
def aU (w:World)(p:Option Addr)(l:List Bur.Sp):Prop:=
 0<l.length -> ∃b off,p=some ⟨b,off,none⟩/\b<w.heap.size/\SpC w b off l
theorem aU.step {w w':World}{p:Option Addr}{l:List Bur.Sp}(h:aU w p l)(hb:Below w.heap.size w w'):aU w' p l:=by
 intro hl
 obtain⟨b,off,rfl,hlt,hc⟩:=h hl
 refine⟨b,off,rfl,Nat.lt_of_lt_of_le hlt hb.size,fun i hi=>?_⟩
 rw[hb.cell (p:=⟨b,off+i*2,none⟩) hlt,hb.cell (p:=⟨b,off+i*2+1,none⟩) hlt]
 exact hc i hi
theorem aU.alloc {w:World}{p:Option Addr}{l:List Bur.Sp}(h:aU w p l)(o:Obj):aU (w.alloc o) p l:=h.step (aj (ah _) _)
theorem aU.nil (w:World)(p:Option Addr):aU w p []:=fun h=>by simp at h
theorem fO {l:List Bur.Sp}{k:Nat}(h:k<l.length):l.drop k=(lo l k,hi l k) :: l.drop (k+1):=by
 rw[List.drop_eq_getElem_cons h]
 simp only [lo,hi,List.getD,List.getElem?_eq_getElem h,Option.getD_some]
abbrev scs (a b:Int):Obj:=.cells #[.int .i64 a,.int .i64 b] 150
theorem xI (a b:Int)(w:World):Calls Tryz.prog 284 #[pfx a b] w fun e w'=>e=.returned (ev (Bur.spF a b))/\Below w.heap.size w w':=by
 have hb0:Below w.heap.size w (w.alloc (scs a b)):=aj (ah _) _
 cases h1:Bur.isA a
 ·have E:Bur.spF a b=1:=by simp[Bur.spF,h1]
  rw[E]
  go_enter Tryz.func284,Tryz.ntmps284
  go_wp2_with (go_at_call 66;refine (dR _ _).mono ?_;rintro e w' ⟨rfl,rfl⟩)
  go_ret
  exact⟨rfl,hb0⟩
 ·cases h2:Bur.isA b
  ·have E:Bur.spF a b=1:=by simp[Bur.spF,h2]
   rw[E]
   go_enter Tryz.func284,Tryz.ntmps284
   go_wp2_with (go_at_call 66;refine (dR _ _).mono ?_;rintro e w' ⟨rfl,rfl⟩)
   go_ret
   exact⟨rfl,hb0⟩
  ·by_cases h3:b<a
   ·have E:Bur.spF a b=2:=by simp[Bur.spF,h1,h2,h3]
    rw[E]
    go_enter Tryz.func284,Tryz.ntmps284
    go_wp2_with (go_at_call 66;refine (dR _ _).mono ?_;rintro e w' ⟨rfl,rfl⟩)
    go_ret
    exact⟨rfl,hb0⟩
   ·have E:Bur.spF a b=0:=by simp[Bur.spF,h1,h2,h3]
    rw[E]
    go_enter Tryz.func284,Tryz.ntmps284
    go_wp2_with (go_at_call 66;refine (dR _ _).mono ?_;rintro e w' ⟨rfl,rfl⟩)
    go_ret
    exact⟨rfl,hb0⟩
theorem afW {l:List Bur.Sp}{h:Int}{k:Nat}(hk:k<l.length):Bur.stF h (l.drop k)=if Bur.spF (lo l k) (hi l k)=0 then (if lo l k<=h+1 then 2 else Bur.stF (hi l k) (l.drop (k+1))) else Bur.spF (lo l k) (hi l k):=by
 rw[fO hk];rfl
def prv (l:List Bur.Sp)(k:Nat):Int:=if k=0 then -2 else hi l (k - 1)
theorem check (p:Option Addr)(cap:Nat)(l:List Bur.Sp)(w:World)(hl:l.length<=9223372036854775807)(hs:aU w p l):Calls Tryz.prog 275 #[.slice p l.length cap] w fun e w'=>e=.returned (ev (Bur.gX l))/\Below w.heap.size w w':=by
 by_cases h64:64<l.length
 ·have E:Bur.gX l=3:=if_pos h64
  rw[E]
  go_enter Tryz.func275,Tryz.ntmps275
  go_wp2
  go_ret
  exact⟨rfl,ah _⟩
 have E:Bur.gX l=Bur.stF (-2) l:=if_neg h64
 rw[E]
 clear E
 go_enter Tryz.func275,Tryz.ntmps275
 go_wp2
 go_loopw [12] (fun i wr=>∃k:Nat,k<=l.length/\i=.int .i64 k/\Hid (Bur.stF (-2) l=Bur.stF (prv l k) (l.drop k))/\Hid (0<k->Bur.isA (hi l (k - 1))=true)/\Below w.heap.size w wr) (fun i _=>l.length - (intOf i).toNat)
 case atStart=>exact⟨0,by omega,rfl,rfl,fun h=>by omega,ah _⟩
 case round=>
  obtain⟨k,hk,rfl,R,hA,hb⟩:=hrel
  by_cases hlt:k<l.length
  ·have hlt':(k:Int)<(l.length:Int):=by omega
   obtain⟨b,off,rfl,hbl,hc⟩:=hs (by omega)
   have hcb:=ER hb
   have c0:wr.cell? ⟨b,off+k*2,none⟩=some (.int .i64 (lo l k)):=(hcb.1 _ _ hbl).trans (hc k hlt).1
   have c1:wr.cell? ⟨b,off+k*2+1,none⟩=some (.int .i64 (hi l k)):=(hcb.1 _ _ hbl).trans (hc k hlt).2
   have S:Hid _:=afW (h:=prv l k) hlt
   have hsz:=hb.size
   by_cases hf:Bur.spF (lo l k) (hi l k)=0
   ·have ok:=Bur.WU hf
    have hev:Hid (ev (Bur.spF (lo l k) (hi l k))=.nilIface):=by show _=_;rw[hf];rfl
    have A2:Hid (0<k+1->Bur.isA (hi l (k+1 - 1))=true):=fun _=>Bur.qV (by simp only [Nat.add_sub_cancel];omega) (by simp only [Nat.add_sub_cancel];omega)
    by_cases hk0:0<k
    ·have cp:wr.cell? ⟨b,off+(k - 1)*2+1,none⟩=some (.int .i64 (hi l (k - 1))):=(hcb.1 _ _ hbl).trans (hc (k - 1) (by omega)).2
     have hp:=Bur.eX (hA.out hk0)
     have hg:decide ((0:Int)<(k:Int))=true:=by simp;omega
     have eP:prv l k=hi l (k - 1):=if_neg (by omega)
     cases hd:decide (lo l k<=hi l (k - 1)+1)
     ·have S2:Hid (Bur.stF (-2) l=Bur.stF (prv l (k+1)) (l.drop (k+1))):=by
       show _=_
       rw[R.out,S.out,if_pos hf,if_neg (by rw[eP];simpa using hd)]
       rfl
      clear S hf hc hcb hs R hA eP
      go_wp2_with (go_at_call 284;refine (xI _ _ _).mono ?_;rintro e w1 ⟨rfl,hb1⟩;rw[hev.out];have hb2:Below w.heap.size w w1:=ak (aj hb _) hb1;have d0:w1.cell? ⟨wr.heap.size,0,none⟩=some (.int .i64 (lo l k)):=(hb1.cell (p:=⟨wr.heap.size,0,none⟩) (by simp)).trans (by simp);have d1:w1.cell? ⟨b,off+(k - 1)*2+1,none⟩=some (.int .i64 (hi l (k - 1))):=(hb1.cell (p:=⟨b,off+(k - 1)*2+1,none⟩) (by simp;omega)).trans ((World.cell?_alloc_lt _ _ _ (by simp;omega)).trans cp);clear hb1)
      go_quiet (fail)
      go_wp2
      exact⟨⟨k+1,by omega,by go_num,S2,A2,below_drewN hb2 _⟩,by simp[intOf];omega⟩
     ·have S2:Hid (Bur.stF (-2) l=2):=by
       show _=_
       rw[R.out,S.out,if_pos hf,if_pos (by rw[eP];simpa using hd)]
      clear S hf hc hcb hs R hA eP
      go_wp2_with (go_at_call 284;refine (xI _ _ _).mono ?_;rintro e w1 ⟨rfl,hb1⟩;rw[hev.out];have hb2:Below w.heap.size w w1:=ak (aj hb _) hb1;have d0:w1.cell? ⟨wr.heap.size,0,none⟩=some (.int .i64 (lo l k)):=(hb1.cell (p:=⟨wr.heap.size,0,none⟩) (by simp)).trans (by simp);have d1:w1.cell? ⟨b,off+(k - 1)*2+1,none⟩=some (.int .i64 (hi l (k - 1))):=(hb1.cell (p:=⟨b,off+(k - 1)*2+1,none⟩) (by simp;omega)).trans ((World.cell?_alloc_lt _ _ _ (by simp;omega)).trans cp);clear hb1)
      go_quiet (fail)
      go_wp2
      go_ret
      exact⟨by rw[S2.out];rfl,below_drewN hb2 _⟩
    ·have S2:Hid (Bur.stF (-2) l=Bur.stF (prv l (k+1)) (l.drop (k+1))):=by
      show _=_
      rw[R.out,S.out,if_pos hf,if_neg (by simp only [prv];rw[if_pos (by omega)];omega)]
      rfl
     have hg:decide ((0:Int)<(k:Int))=false:=by simp;omega
     clear S hf hc hcb hs R hA
     go_wp2_with (go_at_call 284;refine (xI _ _ _).mono ?_;rintro e w1 ⟨rfl,hb1⟩;rw[hev.out];have hb2:Below w.heap.size w w1:=ak (aj hb _) hb1;clear hb1)
     go_quiet (fail)
     go_wp2
     exact⟨⟨k+1,by omega,by go_num,S2,A2,below_drewN hb2 _⟩,by simp[intOf];omega⟩
   ·have hev:Hid (ev (Bur.spF (lo l k) (hi l k))=aC (Bur.spF (lo l k) (hi l k))):=if_neg hf
    have S2:Hid (Bur.stF (-2) l=Bur.spF (lo l k) (hi l k)):=by
     show _=_
     rw[R.out,S.out,if_neg hf]
    clear S hc hcb hs R hA
    go_wp2_with (go_at_call 284;refine (xI _ _ _).mono ?_;rintro e w1 ⟨rfl,hb1⟩;rw[hev.out];have hb2:Below w.heap.size w w1:=ak (aj hb _) hb1;clear hb1)
    go_ret
    exact⟨by rw[S2.out,hev.out];rfl,hb2⟩
  ·have S2:Hid (Bur.stF (-2) l=0):=by
    show _=_
    rw[R.out,List.drop_eq_nil_of_le (by omega)];rfl
   clear R hA hs
   go_wp2
   go_ret
   exact⟨by rw[S2.out];rfl,hb⟩
end Go.Proofs.YtmghmpclmphccaaGreatDoor.Sa
namespace Bur
end Bur
namespace Go.Proofs.YtmghmpclmphccaaGreatDoor.Sa
open Go.RowKit
theorem adI (a b x:Int)(q:Addr)(w:World)(hq:w.cell? q=some (.int .i64 x)):Calls Tryz.prog 287 #[pfx a b,.pointer (some q)] w fun e w'=>e=.returned (.bool (decide (a<=x)&&decide (x<=b)))/\Below w.heap.size w w':=by
 have hlt:=World.block_lt_of_cell? _ _ hq
 have hq2:(w.alloc (scs a b)).cell? q=some (.int .i64 x):=(World.cell?_alloc_lt _ _ _ hlt).trans hq
 have hb0:Below w.heap.size w (w.alloc (scs a b)):=aj (ah _) _
 cases h1:decide (a<=x)
 ·go_enter Tryz.func287,Tryz.ntmps287
  go_wp2
  go_ret
  exact⟨rfl,hb0⟩
 ·go_enter Tryz.func287,Tryz.ntmps287
  go_wp2
  go_ret
  exact⟨rfl,hb0⟩
theorem indexFunc (p:Option Addr)(cap:Nat)(l:List Bur.Sp)(x:Int)(q:Addr)(w:World)(hl:l.length<=9223372036854775807)(hs:aU w p l)(hq:w.cell? q=some (.int .i64 x)) :
  Calls Tryz.prog 297 #[.slice p l.length cap,.func (.func 287) #[] #[.pointer (some q)]] w fun e w'=>∃r:Int,e=.returned (.int .i64 r)/\decide (0<=r)=Bur.mem l x/\Below w.heap.size w w':=by
 have hqb:=World.block_lt_of_cell? _ _ hq
 go_enter Tryz.func297,Tryz.ntmps297
 go_wp2
 go_loopw [8] (fun i wr=>∃(k:Nat),k<=l.length/\i=.int .i64 k/\Hid (Bur.mem l x=Bur.mem (l.drop k) x)/\Below w.heap.size w wr) (fun i _=>l.length - (intOf i).toNat)
 case atStart=>exact⟨0,by omega,rfl,rfl,ah _⟩
 case round=>
  obtain⟨k,hk,rfl,R,hb⟩:=hrel
  by_cases hlt:k<l.length
  ·have hlt':(k:Int)<(l.length:Int):=by omega
   obtain⟨b,off,rfl,hbl,hc⟩:=hs (by omega)
   have hcb:=ER hb
   have c0:wr.cell? ⟨b,off+k*2,none⟩=some (.int .i64 (lo l k)):=(hcb.1 _ _ hbl).trans (hc k hlt).1
   have c1:wr.cell? ⟨b,off+k*2+1,none⟩=some (.int .i64 (hi l k)):=(hcb.1 _ _ hbl).trans (hc k hlt).2
   have cq:wr.cell? q=some (.int .i64 x):=(hb.cell hqb).trans hq
   clear hc hcb hs hq
   cases h:(decide (lo l k<=x)&&decide (x<=hi l k))
   ·have R2:Hid (Bur.mem l x=Bur.mem (l.drop (k+1)) x):=by
     show _=_
     rw[R.out,fO hlt,Bur.mem_cons];simp only;rw[h];rfl
    have H:Hid _:=h
    clear R h
    go_wp2_with (go_at_call 287;refine (adI _ _ x q _ cq).mono ?_;rintro e w1 ⟨rfl,hb1⟩;rw[H.out];have hb2:Below w.heap.size w w1:=ak hb hb1)
    exact⟨⟨k+1,by omega,by go_num,R2,hb2⟩,by simp[intOf];omega⟩
   ·have R2:Hid (Bur.mem l x=true):=by
     show _=_
     rw[R.out,fO hlt,Bur.mem_cons];simp only;rw[h];rfl
    have H:Hid _:=h
    clear R h
    go_wp2_with (go_at_call 287;refine (adI _ _ x q _ cq).mono ?_;rintro e w1 ⟨rfl,hb1⟩;rw[H.out];have hb2:Below w.heap.size w w1:=ak hb hb1)
    go_ret
    exact⟨k,rfl,by rw[R2.out];simp,hb2⟩
  ·have R2:Hid (Bur.mem l x=false):=by
    show _=_
    rw[R.out,List.drop_eq_nil_of_le (by omega)];rfl
   clear R hs
   go_wp2
   go_ret
   exact⟨-1,rfl,by rw[R2.out];rfl,hb⟩
theorem MN (p:Option Addr)(cap:Nat)(l:List Bur.Sp)(x:Int)(q:Addr)(w:World)(hl:l.length<=9223372036854775807)(hs:aU w p l)(hq:w.cell? q=some (.int .i64 x)) :
  Calls Tryz.prog 286 #[.slice p l.length cap,.func (.func 287) #[] #[.pointer (some q)]] w fun e w'=>e=.returned (.bool (Bur.mem l x))/\Below w.heap.size w w':=by
 go_enter Tryz.func286,Tryz.ntmps286
 go_wp2_with (go_at_call 297;refine (indexFunc p cap l x q _ hl hs hq).mono ?_;rintro e w1 ⟨r,rfl,hr,hb1⟩;have H:Hid _:=hr;clear hr)
 go_ret
 exact⟨by rw[<- H.out];rfl,hb1⟩
def Ask (w:World)(c:Addr)(l:List Bur.Sp):Prop:=l.length<=9223372036854775807 /\ ∃p cap,w.cell? c=some (.slice p l.length cap)/\aU w p l
theorem Ask.step {w w':World}{c:Addr}{l:List Bur.Sp}(h:Ask w c l)(hb:Below w.heap.size w w'):Ask w' c l:=by
 obtain⟨h0,p,cap,h1,h2⟩:=h
 exact⟨h0,p,cap,(hb.cell (World.block_lt_of_cell? _ _ h1)).trans h1,h2.step hb⟩
theorem Xc (l:List Bur.Sp)(x:Int)(c:Addr)(w:World)(ha:Ask w c l):Calls Tryz.prog 285 #[.int .i64 x,.pointer (some c)] w fun e w'=>e=.returned (.bool (Bur.mem l x))/\Below w.heap.size w w':=by
 obtain⟨hl,p,cap,h1,h2⟩:=ha
 have hb0:Below w.heap.size w (w.alloc (.cells #[.int .i64 x] 3)):=aj (ah _) _
 have h1':(w.alloc (.cells #[.int .i64 x] 3)).cell? c=some (.slice p l.length cap):=(hb0.cell (World.block_lt_of_cell? _ _ h1)).trans h1
 have hq:(w.alloc (.cells #[.int .i64 x] 3)).cell? ⟨w.heap.size,0,none⟩=some (.int .i64 x):=by simp
 go_enter Tryz.func285,Tryz.ntmps285
 go_wp2_with (go_at_call 286;refine (MN p cap l x ⟨w.heap.size,0,none⟩ _ hl (h2.step hb0) hq).mono ?_;rintro e w1 ⟨rfl,hb1⟩)
 go_ret
 exact⟨rfl,ak hb0 hb1⟩
theorem asker (p:Option Addr)(cap:Nat)(l:List Bur.Sp)(w:World)(hl:l.length<=9223372036854775807)(hs:aU w p l):Calls Tryz.prog 276 #[.slice p l.length cap] w fun e w'=>∃c,e=.returned (.func (.func 285) #[] #[.pointer (some c)])/\Ask w' c l/\Below w.heap.size w w':=by
 go_enter Tryz.func276,Tryz.ntmps276
 go_wp2
 go_ret
 exact⟨⟨w.heap.size,0,none⟩,rfl,⟨hl,p,cap,by simp,hs.alloc _⟩,aj (ah _) _⟩
theorem Af:(Tryz.prog.info? 150).map (fun i=>(i.zero,i.size,i.bytes))=some (some (.agg #[.int .i64 0,.int .i64 0]),2,16):=by kernel_rfl
theorem XE:(Tryz.prog.info? 3).map (fun i=>(i.zero,i.size,i.bytes))=some (some (.int .i64 0),1,8):=by kernel_rfl
theorem own_below {w w':World}{B e size n:Nat}{v:Value}{xs:List Value}(h:w.ownsRow B e size v n xs)(hb:Below w.heap.size w w'):w'.ownsRow B e size v n xs:=by
 refine⟨h.1,?_⟩
 rcases h.2 with hn|⟨g,cap,cur,rfl,h1,hg,rest⟩
 ·exact .inl hn
 ·exact .inr ⟨g,cap,cur,rfl,h1,(hb.block g (Array.getElem?_eq_some_iff.1 hg).1).trans hg,rest⟩
def spV (l:List Bur.Sp):List Value:=l.flatMap fun s=>[.int .i64 s.1,.int .i64 s.2]
theorem gK:∀l:List Bur.Sp,(spV l).length=l.length*2
 | []=>rfl
 | s :: r=>by show ((spV r).length+1+1)=_;rw[gK r,List.length_cons];omega
theorem gG (l m:List Bur.Sp):spV (l++m)=spV l++spV m:=by simp[spV]
theorem Ag:∀(l:List Bur.Sp) (i:Nat),i<l.length->(spV l)[i*2]? = some (.int .i64 (lo l i))/\(spV l)[i*2+1]? = some (.int .i64 (hi l i))
 | s :: r,0,_=>⟨rfl,rfl⟩
 | s :: r,i+1,h=>by
  have:=Ag r i (by simpa using h)
  rw[show (i+1)*2=i*2+2 from by omega,show i*2+2+1=i*2+1+2 from by omega]
  exact this
theorem gu {w:World}{B n cap:Nat}{p:Option Addr}{l:List Bur.Sp}(h:w.ownsRow B 150 2 (.slice p n cap) l.length (spV l)):n=l.length/\aU w p l:=by
 rcases h.2 with ⟨h0,h1⟩|⟨g,cap',cur,h0,_,hg,_,_,_,_⟩
 ·cases h0;exact⟨h1.symm,fun hp=>by omega⟩
 ·cases h0
  refine⟨rfl,fun _=>⟨g,0,rfl,(Array.getElem?_eq_some_iff.1 hg).1,fun i hi=>?_⟩⟩
  have:=Ag l i hi
  rw[Nat.zero_add,h.cellAt (i*2) (by omega),h.cellAt (i*2+1) (by omega)]
  exact this
def rD (w:World)(p:Option Addr)(zs:List Int):Prop:=
 0<zs.length -> ∃b off,p=some ⟨b,off,none⟩/\b<w.heap.size /\ ∀i,i<zs.length->w.cell? ⟨b,off+i,none⟩=some (.int .i64 (zs.getD i 0))
theorem rD.step {w w':World}{p:Option Addr}{zs:List Int}(h:rD w p zs)(hb:Below w.heap.size w w'):rD w' p zs:=by
 intro hl
 obtain⟨b,off,rfl,hlt,hc⟩:=h hl
 refine⟨b,off,rfl,Nat.lt_of_lt_of_le hlt hb.size,fun i hi=>?_⟩
 rw[hb.cell (p:=⟨b,off+i,none⟩) hlt]
 exact hc i hi
theorem Em {zs:List Int}{k:Nat}(h:k<zs.length):zs.drop k=zs.getD k 0 :: zs.drop (k+1):=by
 rw[List.drop_eq_getElem_cons h]
 simp only [List.getD,List.getElem?_eq_getElem h,Option.getD_some]
def rowOf (done:List Bur.Sp):Option Int->List Bur.Sp
 | none=>done
 | some a=>done ++ [(a,0)]
theorem VJ (done:List Bur.Sp)(a e:Int)(k:Nat)(hk:k=done.length):(spV (done ++ [(a,0)])).set (k*2+1) (.int .i64 e)=spV (done ++ [(a,e)]):=by
 subst hk
 rw[gG,gG]
 show (spV done ++ [Value.int .i64 a,Value.int .i64 0]).set (done.length*2+1) (.int .i64 e)=spV done ++ [Value.int .i64 a,Value.int .i64 e]
 rw[List.set_append_right _ _ (by rw[gK];omega),gK,show done.length*2+1 - done.length*2=1 from by omega]
 rfl
theorem abD (P:Int->Bool)(q:Option Addr)(cap:Nat)(zs:List Int)(c1 c2 c3:Addr)(w:World)(hz:zs.length<=1000000)(hq:rD w q zs)(hB:∀z∈zs,0<=z/\z<=4294967296)
  (hF:∀(x:Int) (w1:World),Below w.heap.size w w1->Calls Tryz.prog 279 #[.int .i64 x,.pointer (some c1),.pointer (some c2),.pointer (some c3)] w1 fun e w'=>e=.returned (.bool (P x))/\Below w1.heap.size w1 w') :
  Calls Tryz.prog 277 #[.slice q zs.length cap,.func (.func 279) #[] #[.pointer (some c1),.pointer (some c2),.pointer (some c3)]] w fun e w'=>∃(p':Option Addr) (cap':Nat),e=.returned (.slice p' (Bur.gt P none zs).length cap')/\aU w' p' (Bur.gt P none zs)/\Below w.heap.size w w':=by
 obtain⟨i0,hi,hz0,hz1,hz2⟩:=info_parts Af
 go_enter Tryz.func277,Tryz.ntmps277
 go_wp2
 go_loopw [5,6,12] (fun v o i wr=>∃(k:Nat) (done:List Bur.Sp) (cur:Option Int),k<=zs.length/\i=.int .i64 k/\o=.bool cur.isSome/\(rowOf done cur).length<=k/\Hid (Bur.gt P none zs=done++Bur.gt P cur (zs.drop k))/\wr.ownsRow w.heap.size 150 2 v (rowOf done cur).length (spV (rowOf done cur))/\Below w.heap.size w wr) (fun _ _ i _=>zs.length - (intOf i).toNat)
 case atStart=>exact⟨0,[],none,by omega,rfl,rfl,by simp[rowOf],rfl,World.ownsRow_nil _ _ _ _,ah _⟩
 case round=>
  obtain⟨k,done,cur,hk,rfl,rfl,hrl,R,hown,hb⟩:=hrel
  have hsz:=hb.size
  by_cases hlt:k<zs.length
  ·have hlt':(k:Int)<(zs.length:Int):=by omega
   obtain⟨b,off,rfl,hbl,hc⟩:=hq (by omega)
   obtain⟨z,hz'⟩:∃z,z=zs.getD k 0:=⟨_,rfl⟩
   have c0:wr.cell? ⟨b,off+k,none⟩=some (.int .i64 z):=by rw[hz'];exact (hb.cell (p:=⟨b,off+k,none⟩) hbl).trans (hc k hlt)
   have hd:Hid (zs.drop k=z :: zs.drop (k+1)):=by show _=_;rw[hz'];exact Em hlt
   have bz:=hB z (List.mem_of_mem_drop (by rw[hd.out];simp))
   have HF:=hF z wr hb
   clear hz' hc hq hB hF
   cases hp:P z
   ·cases cur with
    | none=>
     have R2:Hid (Bur.gt P none zs=done++Bur.gt P none (zs.drop (k+1))):=by
      show _=_
      rw[R.out,hd.out,Bur.gt,if_neg (by simp[hp])]
     have H:Hid _:=hp
     clear R hd hp
     go_wp2_with (go_at_call 279;refine HF.mono ?_;rintro e w1 ⟨rfl,hb1⟩;rw[H.out];have hb2:=ak hb hb1;have hown2:=own_below hown hb1;clear hb1)
     exact⟨⟨k+1,done,none,by omega,by go_num,rfl,by omega,R2,hown2,hb2⟩,by simp[intOf];omega⟩
    | some a=>
     have R2:Hid (Bur.gt P none zs=(done ++ [(a,z - 1)])++Bur.gt P none (zs.drop (k+1))):=by
      show _=_
      rw[R.out,hd.out,Bur.gt,if_neg (by simp[hp])];simp
     have H:Hid _:=hp
     have hrl':done.length+1<=k:=by simpa [rowOf] using hrl
     have hown':=hown
     simp only [rowOf,List.length_append,List.length_cons,List.length_nil,Nat.zero_add] at hown'
     clear R hd hp hown hrl
     obtain⟨g,cp,rfl,hg0,hg1⟩:=hown'.form (by omega)
     go_wp2_with (go_at_call 279;refine HF.mono ?_;rintro e w1 ⟨rfl,hb1⟩;rw[H.out];have hb2:=ak hb hb1;have hown2:=own_below hown' hb1;have g1:w1.cell? ⟨g,done.length*2+1,none⟩=some (.int .i64 0):=(hown2.cellAt (done.length*2+1) (by omega)).trans (by rw[gG,List.getElem?_append_right (by rw[gK];omega),gK,show done.length*2+1 - done.length*2=1 from by omega];rfl);have g2:w1.frozen? ⟨g,done.length*2+1,none⟩=false:=hown2.frozenAt _;have hst:=hown2.stored (done.length*2+1) (.int .i64 (z - 1));clear hb1 hown2)
     obtain⟨s1,s2⟩:=hst
     rw[VJ done a (z - 1) done.length rfl] at s1
     exact⟨⟨k+1,done ++ [(a,z - 1)],none,by omega,by go_num,rfl,by simp[rowOf];omega,R2,by simpa [rowOf] using s1,hb2.setCell (by exact hg0) _⟩,by simp[intOf];omega⟩
   ·cases cur with
    | some a=>
     have R2:Hid (Bur.gt P none zs=done++Bur.gt P (some a) (zs.drop (k+1))):=by
      show _=_
      rw[R.out,hd.out,Bur.gt,if_pos hp]
     have H:Hid _:=hp
     clear R hd hp
     go_wp2_with (go_at_call 279;refine HF.mono ?_;rintro e w1 ⟨rfl,hb1⟩;rw[H.out];have hb2:=ak hb hb1;have hown2:=own_below hown hb1;clear hb1)
     exact⟨⟨k+1,done,some a,by omega,by go_num,rfl,by omega,R2,hown2,hb2⟩,by simp[intOf];omega⟩
    | none=>
     have R2:Hid (Bur.gt P none zs=done++Bur.gt P (some z) (zs.drop (k+1))):=by
      show _=_
      rw[R.out,hd.out,Bur.gt,if_pos hp]
     have H:Hid _:=hp
     have hrl':done.length<=k:=by simpa [rowOf] using hrl
     have hown':=hown
     simp only [rowOf] at hown'
     clear R hd hp hown hrl
     go_wp2_with (first|(go_at_call 279;refine HF.mono ?_;rintro e w1 ⟨rfl,hb1⟩;rw[H.out];have hb2:=ak hb hb1;have hown2:=own_below hown' hb1;have hsz2:=hb2.size;clear hb1)|(at_builtin;refine wpList_append_own _ rfl _ _ 294 rfl w.heap.size 150 i0 (.agg #[.int .i64 0,.int .i64 0]) 2 16 Tryz.underlying294 hi hz0 hz1 hz2 rfl (by decide) _ _ _ rfl (hown2.alloc _) ⟨w1.heap.size,0,none⟩ 1 1 [.int .i64 z,.int .i64 0] rfl rfl ?c1 ?c2 ?c3 ?c4 ?c5 ?_))
     case c1=>
      intro j u hj
      match j,hj with
      | 0,hj=>simp at hj;subst hj;simp[Addr.add]
      | 1,hj=>simp at hj;subst hj;simp[Addr.add]
     case c2=>intro u hu;simp at hu;rcases hu with rfl|rfl <;> rfl
     case c3=>unfold maxLen;omega
     case c4=>omega
     case c5=>simp;omega
     intro v' w2 hown3 hgrow _
     have hb3:Below w.heap.size w w2:=(aj hb2 _).grown hgrow (by simp;omega) (fun j hj=>(hown2.lt j hj).1)
     clear hown2 hgrow hown'
     go_wp2
     exact⟨⟨k+1,done,some z,by omega,by go_num,rfl,by simp[rowOf];omega,R2,by simpa [rowOf,gG,spV] using hown3,hb3⟩,by simp[intOf];omega⟩
  ·have hd:zs.drop k=[]:=List.drop_eq_nil_of_le (by omega)
   have R2:Hid (Bur.gt P none zs=rowOf done cur):=by
    show _=_
    rw[R.out,hd]
    cases cur <;> simp[Bur.gt,rowOf]
   rw[<- R2.out] at hown
   clear R R2 hd hF hq
   go_wp2
   rcases hown.2 with ⟨rfl,h0⟩|⟨g,cp,cur',rfl,_⟩
   ·go_ret
    exact⟨none,0,by rw[h0];rfl,fun h=>by omega,hb⟩
   ·go_ret
    exact⟨some ⟨g,0,none⟩,cp,rfl,(gu hown).2,hb⟩
end Go.Proofs.YtmghmpclmphccaaGreatDoor.Sa
namespace Go.Proofs.YtmghmpclmphccaaGreatDoor.Ta
open Go.RowKit
abbrev lo (l:List Bur.Sp)(i:Nat):Int:=(l.getD i (0,0)).1
abbrev hi (l:List Bur.Sp)(i:Nat):Int:=(l.getD i (0,0)).2
def SpC (w:World)(b off:Nat)(l:List Bur.Sp):Prop:=
 ∀i,i<l.length->w.cell? ⟨b,off+i*2,none⟩=some (.int .i64 (lo l i))/\w.cell? ⟨b,off+i*2+1,none⟩=some (.int .i64 (hi l i))
def aU (w:World)(p:Option Addr)(l:List Bur.Sp):Prop:=
 0<l.length -> ∃b off,p=some ⟨b,off,none⟩/\b<w.heap.size/\SpC w b off l
theorem aU.step {w w':World}{p:Option Addr}{l:List Bur.Sp}(h:aU w p l)(hb:Below w.heap.size w w'):aU w' p l:=by
 intro hl
 obtain⟨b,off,rfl,hlt,hc⟩:=h hl
 refine⟨b,off,rfl,Nat.lt_of_lt_of_le hlt hb.size,fun i hi=>?_⟩
 rw[hb.cell (p:=⟨b,off+i*2,none⟩) hlt,hb.cell (p:=⟨b,off+i*2+1,none⟩) hlt]
 exact hc i hi
theorem aU.alloc {w:World}{p:Option Addr}{l:List Bur.Sp}(h:aU w p l)(o:Obj):aU (w.alloc o) p l:=h.step (aj (ah _) _)
theorem aU.nil (w:World)(p:Option Addr):aU w p []:=fun h=>by simp at h
theorem fO {l:List Bur.Sp}{k:Nat}(h:k<l.length):l.drop k=(lo l k,hi l k) :: l.drop (k+1):=by
 rw[List.drop_eq_getElem_cons h]
 simp only [lo,hi,List.getD,List.getElem?_eq_getElem h,Option.getD_some]
theorem own_below {w w':World}{B e size n:Nat}{v:Value}{xs:List Value}(h:w.ownsRow B e size v n xs)(hb:Below w.heap.size w w'):w'.ownsRow B e size v n xs:=by
 refine⟨h.1,?_⟩
 rcases h.2 with hn|⟨g,cap,cur,rfl,h1,hg,rest⟩
 ·exact .inl hn
 ·exact .inr ⟨g,cap,cur,rfl,h1,(hb.block g (Array.getElem?_eq_some_iff.1 hg).1).trans hg,rest⟩
def spV (l:List Bur.Sp):List Value:=l.flatMap fun s=>[.int .i64 s.1,.int .i64 s.2]
theorem gK:∀l:List Bur.Sp,(spV l).length=l.length*2
 | []=>rfl
 | s :: r=>by show ((spV r).length+1+1)=_;rw[gK r,List.length_cons];omega
theorem gG (l m:List Bur.Sp):spV (l++m)=spV l++spV m:=by simp[spV]
theorem Ag:∀(l:List Bur.Sp) (i:Nat),i<l.length->(spV l)[i*2]? = some (.int .i64 (lo l i))/\(spV l)[i*2+1]? = some (.int .i64 (hi l i))
 | s :: r,0,_=>⟨rfl,rfl⟩
 | s :: r,i+1,h=>by
  have:=Ag r i (by simpa using h)
  rw[show (i+1)*2=i*2+2 from by omega,show i*2+2+1=i*2+1+2 from by omega]
  exact this
theorem gu {w:World}{B n cap:Nat}{p:Option Addr}{l:List Bur.Sp}(h:w.ownsRow B 31 2 (.slice p n cap) l.length (spV l)):n=l.length/\aU w p l:=by
 rcases h.2 with ⟨h0,h1⟩|⟨g,cap',cur,h0,_,hg,_,_,_,_⟩
 ·cases h0;exact⟨h1.symm,fun hp=>by omega⟩
 ·cases h0
  refine⟨rfl,fun _=>⟨g,0,rfl,(Array.getElem?_eq_some_iff.1 hg).1,fun i hi=>?_⟩⟩
  have:=Ag l i hi
  rw[Nat.zero_add,h.cellAt (i*2) (by omega),h.cellAt (i*2+1) (by omega)]
  exact this
theorem zi:(Tryz.prog.info? 31).map (fun i=>(i.zero,i.size,i.bytes))=some (some (.agg #[.int .i64 0,.int .i64 0]),2,16):=by kernel_rfl
theorem isNaN (a:Int)(w:World):Calls Tryz.prog 171 #[.int .i64 a] w fun e w'=>e=.returned (.bool false)/\w'=w:=by
 have h:(a != a)=false:=by simp
 go_enter Tryz.func171,Tryz.ntmps171
 go_wp2
 go_ret
 exact⟨rfl,rfl⟩
theorem compare (a b:Int)(w:World):Calls Tryz.prog 125 #[.int .i64 a,.int .i64 b] w fun e w'=>e=.returned (.int .i64 (Bur.cmI a b))/\w'=w:=by
 by_cases h1:a<b
 ·rw[show Bur.cmI a b = -1 from if_pos h1]
  go_enter Tryz.func125,Tryz.ntmps125
  go_wp2_with (go_at_call 171;refine (isNaN _ _).mono ?_;rintro e w1 ⟨rfl,rfl⟩)
  go_ret
  exact⟨rfl,rfl⟩
 ·by_cases h2:b<a
  ·rw[show Bur.cmI a b=1 from (if_neg h1).trans (if_pos h2)]
   go_enter Tryz.func125,Tryz.ntmps125
   go_wp2_with (go_at_call 171;refine (isNaN _ _).mono ?_;rintro e w1 ⟨rfl,rfl⟩)
   go_ret
   exact⟨rfl,rfl⟩
  ·rw[show Bur.cmI a b=0 from (if_neg h1).trans (if_neg h2)]
   go_enter Tryz.func125,Tryz.ntmps125
   go_wp2_with (go_at_call 171;refine (isNaN _ _).mono ?_;rintro e w1 ⟨rfl,rfl⟩)
   go_ret
   exact⟨rfl,rfl⟩
theorem or2 (b:Nat)(x y:Int)(w:World)(c0:w.cell? ⟨b,0,none⟩=some (.int .i64 x))(c1:w.cell? ⟨b,1,none⟩=some (.int .i64 y)):Calls Tryz.prog 124 #[.slice (some ⟨b,0,none⟩) 2 2] w fun e w'=>e=.returned (.int .i64 (Bur.orI x y))/\w'=w:=by
 go_enter Tryz.func124,Tryz.ntmps124
 go_wp2
 go_loopw [8] (fun i wr=>∃k:Nat,k<=2/\i=.int .i64 k/\wr=w/\Hid (0<k->x=0)/\Hid (1<k->y=0)) (fun i _=>2 - (intOf i).toNat)
 case atStart=>exact⟨0,by omega,rfl,rfl,fun h=>by omega,fun h=>by omega⟩
 case round=>
  obtain⟨k,hk,rfl,rfl,h0,h1⟩:=hrel
  match k,hk,h0,h1 with
  | 0,_,_,_=>
   cases hx:(x != 0)
   ·go_wp2
    exact⟨⟨1,by omega,(by first|rfl|trivial|go_num),(by first|rfl|trivial),fun _=>by simpa using hx,fun h=>by omega⟩,by simp[intOf]⟩
   ·go_wp2
    go_ret
    exact⟨by rw[Bur.agr (by simpa using hx)];rfl,rfl⟩
  | 1,_,h0,_=>
   have hx:x=0:=h0.out (by omega)
   cases hy:(y != 0)
   ·go_wp2
    exact⟨⟨2,by omega,(by first|rfl|trivial|go_num),(by first|rfl|trivial),fun _=>hx,fun _=>by simpa using hy⟩,by simp[intOf]⟩
   ·go_wp2
    go_ret
    exact⟨by rw[hx,Bur.ahE];rfl,rfl⟩
  | 2,_,h0,h1=>
   have hx:x=0:=h0.out (by omega)
   have hy:y=0:=h1.out (by omega)
   subst hx hy
   go_wp2
   go_ret
   exact⟨rfl,rfl⟩
theorem order (p q:Bur.Sp)(w:World):Calls Tryz.prog 72 #[pfx p.1 p.2,pfx q.1 q.2] w fun e w'=>e=.returned (.int .i64 (Bur.QE p q))/\Below w.heap.size w w':=by
 obtain⟨a,l⟩:=p
 obtain⟨a2,l2⟩:=q
 go_enter Tryz.func72,Tryz.ntmps72
 go_wp2
 go_region_held3 (fun wy=>wy.cell? ⟨w.heap.size,0,none⟩=some (.int .i64 a)/\wy.cell? ⟨w.heap.size,1,none⟩=some (.int .i64 l)/\wy.cell? ⟨w.heap.size+1,0,none⟩=some (.int .i64 a2)/\wy.cell? ⟨w.heap.size+1,1,none⟩=some (.int .i64 l2)) (go_simp)
  (first
   | (go_at_call 125;refine (compare _ _ _).mono ?_;rintro e w1 ⟨rfl,rfl⟩)
   | (go_at_call 124;refine (or2 _ (Bur.cmI a a2) (Bur.cmI l l2) _ (by go_simp) (by go_simp)).mono ?_;rintro e w1 ⟨rfl,rfl⟩))
 go_wp2
 go_ret
 exact⟨rfl,(aj (aj (aj (ah _) _) _) _).drew⟩
theorem rJ:Tryz.prog.eqGuardType Tryz.prog.depth 31=false:=by kernel_rfl
theorem ZP (a l a2 l2:Int)(w:World):(Op.equalIn 10000 31 (pfx a l) (pfx a2 l2)).run Tryz.prog w=.ok (Bur.sm (a,l) (a2,l2)) w:=by
 have u3:=Tryz.underlying3
 have a3:=Tryz.isAgg3
 have z3:=Tryz.sizeOf3
 have hS:Tryz.prog.underlying 31=some (.struct (Tryz.prog.fieldsOf 31)):=by kernel_rfl
 have hp:Tryz.prog.stoodInHeld 31=false:=by kernel_rfl
 rw[show (10000:Nat)=9999+1 from rfl,run_equalIn_agg w 9999 31 _ _ hS hp]
 simp only [Program.fieldsOf,Tryz.underlying31]
 go_simp
 unfold Bur.sm
 by_cases h1:a=a2 <;> by_cases h2:l=l2 <;> simp[h1,h2]
def QU (l:List Bur.Sp)(k:Nat):Option Bur.Sp:=if k=0 then none else some (lo l (k - 1),hi l (k - 1))
theorem ahm {l:List Bur.Sp}{c:Option Bur.Sp}{k:Nat}(hk:k<l.length):Bur.tF c (l.drop k)=if Bur.fault (lo l k) (hi l k)=0 then (if Bur.okc c (lo l k,hi l k)=true then Bur.tF (some (lo l k,hi l k)) (l.drop (k+1)) else 2) else Bur.fault (lo l k) (hi l k):=by
 rw[fO hk,Bur.SY]
theorem Zd (p:Option Addr)(cap:Nat)(l:List Bur.Sp)(w:World)(hl:l.length<=9223372036854775807)(hs:aU w p l):Calls Tryz.prog 45 #[.slice p l.length cap] w fun e w'=>e=.returned (ev (Bur.NQ l))/\Below w.heap.size w w':=by
 by_cases h60:60<l.length
 ·have E:Bur.NQ l=3:=if_pos h60
  rw[E]
  go_enter Tryz.func45,Tryz.ntmps45
  go_wp2
  go_ret
  exact⟨rfl,ah _⟩
 have E:Bur.NQ l=Bur.tF none l:=if_neg h60
 rw[E]
 clear E
 go_enter Tryz.func45,Tryz.ntmps45
 go_wp2
 go_loopw [12] (fun i wr=>∃k:Nat,k<=l.length/\i=.int .i64 k/\Hid (Bur.tF none l=Bur.tF (QU l k) (l.drop k))/\Below w.heap.size w wr) (fun i _=>l.length - (intOf i).toNat)
 case atStart=>exact⟨0,by omega,rfl,rfl,ah _⟩
 case round=>
  obtain⟨k,hk,rfl,R,hb⟩:=hrel
  by_cases hlt:k<l.length
  ·have hlt':(k:Int)<(l.length:Int):=by omega
   obtain⟨b,off,rfl,hbl,hc⟩:=hs (by omega)
   have hcb:=ER hb
   have c0:wr.cell? ⟨b,off+k*2,none⟩=some (.int .i64 (lo l k)):=(hcb.1 _ _ hbl).trans (hc k hlt).1
   have c1:wr.cell? ⟨b,off+k*2+1,none⟩=some (.int .i64 (hi l k)):=(hcb.1 _ _ hbl).trans (hc k hlt).2
   have S:Hid _:=ahm (c:=QU l k) hlt
   have hsz:=hb.size
   by_cases hf:Bur.fault (lo l k) (hi l k)=0
   ·have hev:Hid (ev (Bur.fault (lo l k) (hi l k))=.nilIface):=by show _=_;rw[hf];rfl
    by_cases hk0:0<k
    rotate_left
    ·have S2:Hid (Bur.tF none l=Bur.tF (QU l (k+1)) (l.drop (k+1))):=by
      show _=_
      rw[R.out,S.out,if_pos hf,if_pos (by rw[show QU l k=none from if_pos (by omega)];rfl)]
      rfl
     have hg:decide ((0:Int)<(k:Int))=false:=by simp;omega
     clear S hf hc hcb hs R
     go_wp2_with (go_at_call 36;refine (check_any _ _ _).mono ?_;rintro e w1 ⟨rfl,hb1⟩;rw[hev.out];have hb2:Below w.heap.size w w1:=ak (aj hb _) hb1;clear hb1)
     go_quiet (fail)
     go_wp2
     exact⟨⟨k+1,by omega,by go_num,S2,below_drewN hb2 _⟩,by simp[intOf];omega⟩
    ·obtain⟨j,hj⟩:∃j,k=j+1:=⟨k - 1,by omega⟩
     have cp0:wr.cell? ⟨b,off+j*2,none⟩=some (.int .i64 (lo l j)):=(hcb.1 _ _ hbl).trans (hc j (by omega)).1
     have cp1:wr.cell? ⟨b,off+j*2+1,none⟩=some (.int .i64 (hi l j)):=(hcb.1 _ _ hbl).trans (hc j (by omega)).2
     have hg:decide ((0:Int)<(k:Int))=true:=by simp;omega
     have hj1:IntKind.i64.wrap ((k:Int) - 1)=(j:Int):=by rw[Bur.fA _ (by omega) (by omega)];omega
     have hj2:(0:Int)<=(j:Int):=by omega
     have hj3:(j:Int)<(l.length:Int):=by omega
     have hj4:j<l.length:=by omega
     have eP:QU l k=some (lo l j,hi l j):=by rw[hj];rfl
     have hbd:=Bur.abd (lo l j,hi l j) (lo l k,hi l k)
     have hO:=order (lo l j,hi l j) (lo l k,hi l k)
     cases hd:decide (0<=Bur.QE (lo l j,hi l j) (lo l k,hi l k))
     ·have S2:Hid (Bur.tF none l=Bur.tF (QU l (k+1)) (l.drop (k+1))):=by
       show _=_
       rw[R.out,S.out,if_pos hf,if_pos]
       ·rfl
       ·rw[eP]
        show Bur.ahd _ _=true
        cases h:Bur.ahd (lo l j,hi l j) (lo l k,hi l k) with
        | true=>rfl
        | false=>rw[h] at hbd;simp[hbd.2 rfl] at hd
      clear S hf hc hcb hs R eP hbd hj
      generalize hgO:Bur.QE (lo l j,hi l j) (lo l k,hi l k)=O at hd hO
      clear hgO
      go_wp2_with (go_at_call 36;refine (check_any _ _ _).mono ?_;rintro e w1 ⟨rfl,hb1⟩;rw[hev.out];have hb2:Below w.heap.size w w1:=ak (aj hb _) hb1;have d0:w1.cell? ⟨wr.heap.size,0,none⟩=some (.int .i64 (lo l k)):=(hb1.cell (p:=⟨wr.heap.size,0,none⟩) (by simp)).trans (by simp);have d1:w1.cell? ⟨wr.heap.size,1,none⟩=some (.int .i64 (hi l k)):=(hb1.cell (p:=⟨wr.heap.size,1,none⟩) (by simp)).trans (by simp);have d2:w1.cell? ⟨b,off+j*2,none⟩=some (.int .i64 (lo l j)):=(hb1.cell (p:=⟨b,off+j*2,none⟩) (by simp;omega)).trans ((World.cell?_alloc_lt _ _ _ (by simp;omega)).trans cp0);have d3:w1.cell? ⟨b,off+j*2+1,none⟩=some (.int .i64 (hi l j)):=(hb1.cell (p:=⟨b,off+j*2+1,none⟩) (by simp;omega)).trans ((World.cell?_alloc_lt _ _ _ (by simp;omega)).trans cp1);have hw1:wr.heap.size<w1.heap.size:=Nat.lt_of_lt_of_le (by simp) hb1.size;clear hb1)
      go_region_held3 (fun wy=>wy.cell? ⟨wr.heap.size,0,none⟩=some (.int .i64 (lo l k))/\wy.cell? ⟨wr.heap.size,1,none⟩=some (.int .i64 (hi l k))/\wy.cell? ⟨b,off+j*2,none⟩=some (.int .i64 (lo l j))/\wy.cell? ⟨b,off+j*2+1,none⟩=some (.int .i64 (hi l j))) (first|exact⟨d0,d1,d2,d3⟩|exact⟨e0,e1,e2,e3⟩)
       (first|(go_at_call 72;refine (hO _).mono ?_;rintro e w2 ⟨rfl,hb3⟩;have e0:=(hb3.cell (p:=⟨wr.heap.size,0,none⟩) hw1).trans d0;have e1:=(hb3.cell (p:=⟨wr.heap.size,1,none⟩) hw1).trans d1;have e2:=(hb3.cell (p:=⟨b,off+j*2,none⟩) (Nat.lt_of_lt_of_le hbl hb2.size)).trans d2;have e3:=(hb3.cell (p:=⟨b,off+j*2+1,none⟩) (Nat.lt_of_lt_of_le hbl hb2.size)).trans d3))
      go_wp2
      exact⟨⟨k+1,by omega,by go_num,S2,ak (hb2.drew) hb3⟩,by simp[intOf];omega⟩
     ·have S2:Hid (Bur.tF none l=2):=by
       show _=_
       rw[R.out,S.out,if_pos hf,if_neg]
       rw[eP]
       show ¬Bur.ahd _ _=true
       rw[hbd.1 (by simpa using hd)]
       simp
      clear S hf hc hcb hs R eP hbd hj
      generalize hgO:Bur.QE (lo l j,hi l j) (lo l k,hi l k)=O at hd hO
      clear hgO
      go_wp2_with (go_at_call 36;refine (check_any _ _ _).mono ?_;rintro e w1 ⟨rfl,hb1⟩;rw[hev.out];have hb2:Below w.heap.size w w1:=ak (aj hb _) hb1;have d0:w1.cell? ⟨wr.heap.size,0,none⟩=some (.int .i64 (lo l k)):=(hb1.cell (p:=⟨wr.heap.size,0,none⟩) (by simp)).trans (by simp);have d1:w1.cell? ⟨wr.heap.size,1,none⟩=some (.int .i64 (hi l k)):=(hb1.cell (p:=⟨wr.heap.size,1,none⟩) (by simp)).trans (by simp);have d2:w1.cell? ⟨b,off+j*2,none⟩=some (.int .i64 (lo l j)):=(hb1.cell (p:=⟨b,off+j*2,none⟩) (by simp;omega)).trans ((World.cell?_alloc_lt _ _ _ (by simp;omega)).trans cp0);have d3:w1.cell? ⟨b,off+j*2+1,none⟩=some (.int .i64 (hi l j)):=(hb1.cell (p:=⟨b,off+j*2+1,none⟩) (by simp;omega)).trans ((World.cell?_alloc_lt _ _ _ (by simp;omega)).trans cp1);have hw1:wr.heap.size<w1.heap.size:=Nat.lt_of_lt_of_le (by simp) hb1.size;clear hb1)
      go_region_held3 (fun wy=>wy.cell? ⟨wr.heap.size,0,none⟩=some (.int .i64 (lo l k))/\wy.cell? ⟨wr.heap.size,1,none⟩=some (.int .i64 (hi l k))/\wy.cell? ⟨b,off+j*2,none⟩=some (.int .i64 (lo l j))/\wy.cell? ⟨b,off+j*2+1,none⟩=some (.int .i64 (hi l j))) (first|exact⟨d0,d1,d2,d3⟩|exact⟨e0,e1,e2,e3⟩)
       (first|(go_at_call 72;refine (hO _).mono ?_;rintro e w2 ⟨rfl,hb3⟩;have e0:=(hb3.cell (p:=⟨wr.heap.size,0,none⟩) hw1).trans d0;have e1:=(hb3.cell (p:=⟨wr.heap.size,1,none⟩) hw1).trans d1;have e2:=(hb3.cell (p:=⟨b,off+j*2,none⟩) (Nat.lt_of_lt_of_le hbl hb2.size)).trans d2;have e3:=(hb3.cell (p:=⟨b,off+j*2+1,none⟩) (Nat.lt_of_lt_of_le hbl hb2.size)).trans d3))
      go_wp2
      go_ret
      exact⟨by rw[S2.out];rfl,ak (hb2.drew) hb3⟩
   ·have hev:Hid (ev (Bur.fault (lo l k) (hi l k))=aC (Bur.fault (lo l k) (hi l k))):=if_neg hf
    have S2:Hid (Bur.tF none l=Bur.fault (lo l k) (hi l k)):=by
     show _=_
     rw[R.out,S.out,if_neg hf]
    clear S hc hcb hs R
    go_wp2_with (go_at_call 36;refine (check_any _ _ _).mono ?_;rintro e w1 ⟨rfl,hb1⟩;rw[hev.out];have hb2:Below w.heap.size w w1:=ak (aj hb _) hb1;clear hb1)
    go_ret
    exact⟨by rw[S2.out,hev.out];rfl,hb2⟩
  ·have S2:Hid (Bur.tF none l=0):=by
    show _=_
    rw[R.out,List.drop_eq_nil_of_le (by omega)]
    cases QU l k <;> rfl
   clear R hs
   go_wp2
   go_ret
   exact⟨by rw[S2.out];rfl,hb⟩
end Go.Proofs.YtmghmpclmphccaaGreatDoor.Ta
namespace Go.Proofs.YtmghmpclmphccaaGreatDoor.Sa
open Go.RowKit
theorem ahL (x y:Bool)(w:World):Calls Tryz.prog 265 #[.bool x,.bool y] w fun e w'=>e=.returned (.bool (Bur.kp 3 x y))/\w'=w:=by
 cases x <;> cases y
 all_goals
  go_enter Tryz.func265,Tryz.ntmps265
  go_wp2
  go_ret
  exact⟨rfl,rfl⟩
structure Cl (w:World)(K:Nat)(kk ia ib ca cb:Addr)(a b:List Bur.Sp):Prop where
 k:w.cell? kk=some (.func (.func K) #[] #[])
 ia:w.cell? ia=some (.func (.func 285) #[] #[.pointer (some ca)])
 ib:w.cell? ib=some (.func (.func 285) #[] #[.pointer (some cb)])
 a:Ask w ca a
 b:Ask w cb b
theorem Cl.step {w w':World}{K:Nat}{kk ia ib ca cb:Addr}{a b:List Bur.Sp}(h:Cl w K kk ia ib ca cb a b)(hb:Below w.heap.size w w'):Cl w' K kk ia ib ca cb a b:=
 ⟨(hb.cell (World.block_lt_of_cell? _ _ h.k)).trans h.k,(hb.cell (World.block_lt_of_cell? _ _ h.ia)).trans h.ia,(hb.cell (World.block_lt_of_cell? _ _ h.ib)).trans h.ib,h.a.step hb,h.b.step hb⟩
theorem ah8 (x:Int)(kk ia ib ca cb:Addr)(a b:List Bur.Sp)(w:World)(h:Cl w 265 kk ia ib ca cb a b) :
  Calls Tryz.prog 279 #[.int .i64 x,.pointer (some kk),.pointer (some ia),.pointer (some ib)] w fun e w'=>e=.returned (.bool (Bur.kp 3 (Bur.mem a x) (Bur.mem b x)))/\Below w.heap.size w w':=by
 have c1:=h.k
 have c2:=h.ia
 have c3:=h.ib
 go_enter Tryz.func279,Tryz.ntmps279
 go_wp2
 go_region_held3 (fun wy=>wy.cell? kk=some (.func (.func 265) #[] #[])/\wy.cell? ia=some (.func (.func 285) #[] #[.pointer (some ca)])/\wy.cell? ib=some (.func (.func 285) #[] #[.pointer (some cb)])) (first|exact⟨h2.k,h2.ia,h2.ib⟩|exact⟨h1.k,h1.ia,h1.ib⟩|exact⟨h.k,h.ia,h.ib⟩)
  (first
   | (go_at_call 285;refine (Xc a x ca _ (h.step (ah _).drew).a).mono ?_;rintro e w1 ⟨rfl,hb1⟩;have h1:Cl w1 265 kk ia ib ca cb a b:=(h.step (ah _).drew).step hb1)
   | (go_at_call 285;refine (Xc b x cb _ h1.b).mono ?_;rintro e w2 ⟨rfl,hb2⟩;have h2:Cl w2 265 kk ia ib ca cb a b:=h1.step hb2)
   | (go_at_call 265;refine (ahL _ _ _).mono ?_;rintro e w3 ⟨rfl,rfl⟩))
 go_wp2
 go_ret
 exact⟨rfl,ak (ak (ah _).drew hb1) hb2⟩
theorem aA {w:World}{B e size n:Nat}{v:Value}{xs:List Value}(h:w.ownsRow B e size v n xs):∃p cp,v=.slice p n cp:=by
 rcases h.2 with ⟨rfl,rfl⟩|⟨g,cp,_,rfl,_⟩
 ·exact⟨_,_,rfl⟩
 ·exact⟨_,_,rfl⟩
theorem own_drewN {w:World}{B e size n:Nat}{v:Value}{xs:List Value}(h:w.ownsRow B e size v n xs)(k:Nat):(w.drewN k).ownsRow B e size v n xs:=own_below h (below_drewN (ah _) k)
theorem iM {W:World}{x y:Int}{t:Nat}{N:Nat}(hN:N=W.heap.size):∀(j:Nat) (u:Value),([.int .i64 x,.int .i64 y]:List Value)[j]? = some u->(W.alloc (.cells #[.int .i64 x,.int .i64 y] t)).cell? ((⟨N,0,none⟩:Addr).add j)=some u:=by
 subst hN
 intro j u hj
 match j,hj with
 | 0,hj=>simp at hj;subst hj;simp[Addr.add]
 | 1,hj=>simp at hj;subst hj;simp[Addr.add]
theorem bQ {x y:Int}:∀u∈([.int .i64 x,.int .i64 y]:List Value),u.oneCell'=true:=by
 intro u hu;simp at hu;rcases hu with rfl|rfl <;> rfl
def rowT (done:List Bur.Sp):Option Bur.Sp->List Bur.Sp
 | none=>done
 | some s=>done ++ [s]
theorem Yh (done:List Bur.Sp)(s:Bur.Sp)(e:Int):(spV (done ++ [s])).set (done.length*2+1) (.int .i64 e)=spV (done ++ [(s.1,e)]):=by
 rw[gG,gG]
 show (spV done ++ [Value.int .i64 s.1,Value.int .i64 s.2]).set (done.length*2+1) (.int .i64 e)=spV done ++ [Value.int .i64 s.1,Value.int .i64 e]
 rw[List.set_append_right _ _ (by rw[gK];omega),gK,show done.length*2+1 - done.length*2=1 from by omega]
 rfl
theorem YC (a z n:Int)(w:World):Calls Tryz.prog 235 #[pfx a z,.int .i64 n] w fun e w'=>e=.returned (ev (Bur.lnF (a,z) n))/\Below w.heap.size w w':=by
 by_cases h:n<z
 ·have E:Hid (Bur.lnF (a,z) n=1):=if_pos (.inl h)
  go_enter Tryz.func235,Tryz.ntmps235
  go_wp2
  go_ret
  exact⟨by rw[E.out];rfl,aj (ah _) _⟩
 ·by_cases h2:32<n
  ·have E:Hid (Bur.lnF (a,z) n=1):=if_pos (.inr h2)
   go_enter Tryz.func235,Tryz.ntmps235
   go_wp2
   go_ret
   exact⟨by rw[E.out];rfl,aj (ah _) _⟩
  ·have E:Hid (Bur.lnF (a,z) n=0):=if_neg (by show ¬(n<z \/ 32<n);omega)
   go_enter Tryz.func235,Tryz.ntmps235
   go_wp2
   go_ret
   exact⟨by rw[E.out];rfl,aj (ah _) _⟩
theorem fit (lo hi n:Int)(w:World)(h0:0<=lo)(h1:lo<=hi)(h2:hi<=4294967295)(n0:0<=n)(n1:n<=32) :
  Calls Tryz.prog 201 #[pfx lo hi,.int .i64 n] w fun e w'=>e=.returned (.tuple #[.int .i64 (Bur.upn (Bur.sz n) lo),.int .i64 (Bur.plc (Bur.sz n) (lo,hi))])/\Below w.heap.size w w':=by
 have hz:=Bur.bJ n
 have hz2:=Bur.abC n0
 have e0:wrap64 (2 ^ (32 - n).toNat)=Bur.sz n:=by
  unfold Bur.sz at *
  exact IntWalk.wrap64_in _ (by omega)
 have F1:wrap64 (wrap64 (lo+Bur.sz n) - 1)=lo+Bur.sz n - 1:=by rw[IntWalk.wrap64_in (lo+Bur.sz n) (by omega),IntWalk.wrap64_in _ (by omega)]
 have q1:0<=(lo+Bur.sz n - 1) / Bur.sz n:=Int.ediv_nonneg (by omega) (by omega)
 have q2:(lo+Bur.sz n - 1) / Bur.sz n<=lo+Bur.sz n - 1:=Int.ediv_le_self _ (by omega)
 have q3:0<=(hi+1) / Bur.sz n:=Int.ediv_nonneg (by omega) (by omega)
 have q4:(hi+1) / Bur.sz n<=hi+1:=Int.ediv_le_self _ (by omega)
 obtain⟨u1,u2,u3⟩:=Bur.DV hz lo
 have F2:wrap64 ((lo+Bur.sz n - 1).tdiv (Bur.sz n))=(lo+Bur.sz n - 1) / Bur.sz n:=by rw[Int.tdiv_eq_ediv_of_nonneg (by omega),IntWalk.wrap64_in _ (by omega)]
 have F3:wrap64 ((hi+1).tdiv (Bur.sz n))=(hi+1) / Bur.sz n:=by rw[Int.tdiv_eq_ediv_of_nonneg (by omega),IntWalk.wrap64_in _ (by omega)]
 have F4:wrap64 ((lo+Bur.sz n - 1) / Bur.sz n*Bur.sz n)=Bur.upn (Bur.sz n) lo:=IntWalk.wrap64_in (Bur.upn (Bur.sz n) lo) (by omega)
 have F5:wrap64 ((hi+1) / Bur.sz n - (lo+Bur.sz n - 1) / Bur.sz n)=(hi+1) / Bur.sz n - (lo+Bur.sz n - 1) / Bur.sz n:=IntWalk.wrap64_in _ (by omega)
 have P:Hid ((Bur.plc (Bur.sz n) (lo,hi):Int)=max 0 ((hi+1) / Bur.sz n - (lo+Bur.sz n - 1) / Bur.sz n)):=Bur.afk hz (lo,hi)
 go_enter Tryz.func201,Tryz.ntmps201
 go_wp2
 all_goals simp only [e0,F1,F2,F3,F4,F5] at *
 all_goals
  go_ret2
  refine⟨?_,aj (ah _) _⟩
  rw[P.out]
  first|rw[Int.max_eq_right (by omega)]|rw[Int.max_eq_left (by omega)]
  rfl
end Go.Proofs.YtmghmpclmphccaaGreatDoor.Sa
namespace Go.Proofs.YtmghmpclmphccaaGreatDoor.Ha
open Go.RowKit
def inV (zs:List Int):List Value:=zs.map (Value.int .i64)
theorem Ui:(Tryz.prog.info? 3).map (fun i=>(i.zero,i.size,i.bytes))=some (some (.int .i64 0),1,8):=by kernel_rfl
theorem yT {w:World}{B n cap:Nat}{p:Option Addr}{zs:List Int}(h:w.ownsRow B 3 1 (.slice p n cap) zs.length (inV zs)):n=zs.length/\rD w p zs:=by
 rcases h.2 with ⟨h0,h1⟩|⟨g,cap',cur,h0,_,hg,_,_,_,_⟩
 ·cases h0;exact⟨h1.symm,fun hp=>by omega⟩
 ·cases h0
  refine⟨rfl,fun _=>⟨g,0,rfl,(Array.getElem?_eq_some_iff.1 hg).1,fun i hi=>?_⟩⟩
  rw[Nat.zero_add,h.cellAt i (by omega)]
  simp[inV,List.getD,List.getElem?_eq_getElem hi]
