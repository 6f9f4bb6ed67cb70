/- -/
import Derived.Test.YtcjdoeclblhaeaaGreatDoorRRnB
import Derived.Test.YtcjdoeclblhaeaaGreatDoorRPlF
import Derived.Deep.AppendLies
import Derived.Test.YtcjdoeclblhaeaaGreatDoorRAdStrB
import Derived.Test.YtcjdoeclblhaeaaGreatDoorRPlV
import Derived.Test.YtcjdoeclblhaeaaGreatDoorRRnCc
set_option maxHeartbeats 8000000
set_option maxRecDepth 100000
namespace Go.Proofs.YtcjdoeclblhaeaaGreatDoor.Rn
open Go.RowKit Pa Vs
theorem info_str2:(Tryz.prog.info? 9).map (fun i=>(i.zero,i.size,i.bytes))=some (some (.string ByteArray.empty),1,16):=by kernel_rfl
def txV (ts:List (List UInt8)):List Value:=ts.map fun t=>Value.string ⟨t.toArray⟩
theorem ppL_app:∀ (a b:List Bur.Sp),ppL (a++b)=(ppL a).bind fun x=>(ppL b).map fun y=>x++y
 | [],b=>by
  show ppL b=(ppL b).map fun y=>[]++y
  cases ppL b <;> rfl
 | p :: r,b=>by
  show (ppW p).bind (fun t=>(ppL (r++b)).map fun l=>t :: l)=_
  rw[ppL_app r b]
  show _=((ppW p).bind fun t=>(ppL r).map fun l=>t :: l).bind _
  cases ppW p with
  | error f=>rfl
  | ok t=>
   cases ppL r with
   | error f=>rfl
   | ok x=>
    cases ppL b <;> rfl
theorem ppL_next {l:List Bur.Sp} {k:Nat} {x:Bur.Sp} {acc:List (List UInt8)} {t:List UInt8} (h:ppL (l.take k)=.ok acc) (hx:l[k]? = some x) (ht:ppW x=.ok t):ppL (l.take (k+1))=.ok (acc ++ [t]):=by
 rw[List.take_add_one,hx,ppL_app,h]
 show (ppL [x]).map _=_
 show ((ppW x).bind fun t=>(ppL []).map fun l=>t :: l).map _=_
 rw[ht]
 rfl
theorem ppL_bad {l:List Bur.Sp} {k:Nat} {x:Bur.Sp} {acc:List (List UInt8)} {f:Int} (h:ppL (l.take k)=.ok acc) (hx:l[k]? = some x) (ht:ppW x=.error f):ppL l=.error f:=by
 have e:l=l.take k++x :: l.drop (k+1):=by
  obtain⟨hk,rfl⟩:=List.getElem?_eq_some_iff.1 hx
  rw[List.getElem_cons_drop,List.take_append_drop]
 rw[e,ppL_app,h]
 show (ppL (x :: l.drop (k+1))).map _=_
 show ((ppW x).bind fun t=>(ppL (l.drop (k+1))).map fun l=>t :: l).map _=_
 rw[ht]
 rfl
theorem ppW_cases (x:Bur.Sp):(Bur.fault x.1 x.2=0/\ppW x=.ok (Bur.txtP x.1 x.2)) \/ (Bur.fault x.1 x.2≠0/\ppW x=.error (Bur.fault x.1 x.2)):=byF_cases _ _
def Ppe (l:List Bur.Sp) (e:Ending) (B:Nat) (w':World):Prop:=
 (∃ ts v,ppL l=.ok ts/\e=.returned v/\w'.ownsRow B 9 1 v ts.length (txV ts)) \/ (∃ f,f≠0/\ppL l=.error f/\e=.panicked (thC f))
theorem prefixes_ (l:List Bur.Sp) (p:Option Addr) (cp:Nat) (w:World) (R:Rv w) (hp:PfA w p l) (hl:l.length<=1000) :
  Calls Tryz.prog 55 #[.slice p l.length cp] w fun e w'=>Ppe l e w.heap.size w'/\Below w.heap.size w w':=by
 obtain⟨i0,hi,hz0,hz1,hz2⟩:=info_parts info_str2
 go_enter Tryz.func55,Tryz.ntmps55
 go_wp2
 go_loopw [3,8] (fun v i wr=>∃ (k:Nat) (acc:List (List UInt8)),k<=l.length/\i=.int .i64 k/\Hid (ppL (l.take k)=.ok acc)/\acc.length=k/\wr.ownsRow w.heap.size 9 1 v acc.length (txV acc)/\Below w.heap.size w wr) (fun _ i _=>l.length - (intOf i).toNat)
 case atStart=>exact⟨0,[],by omega,rfl,Eq.refl _,rfl,World.ownsRow_nil _ _ _ _,below_self _⟩
 case round=>
  obtain⟨k,acc,hk,rfl,hacc,hal,hown,hb⟩:=hrel
  have sz:=hb.size
  by_cases hlt:k<l.length
  ·have hlt':(k:Int)<(l.length:Int):=by omega
   obtain⟨x,hx⟩:∃ x,l[k]? = some x:=⟨l[k],List.getElem?_eq_getElem hlt⟩
   obtain⟨b,off,rfl,hbl,hc⟩:=(hp.step hb) (by omega)
   obtain⟨d0,d1⟩:=hc k x hx
   have HX:Hid (l[k]? = some x):=hx
   obtain⟨x1,x2⟩:=x
   have bA:=below_al hb (pcs x1 x2)
   have rA:=hown.alloc (pcs x1 x2)
   have RA:=(R.step bA).pw
   rcases ppW_cases (x1,x2) with ⟨q1,q2⟩|⟨q1,q2⟩
   ·have Q2:Hid _:=q2
    have KP:=fun W hW=>printPrefix_ok x1 x2 W q1 hW
    obtain⟨t,ht⟩:∃ t,t=Bur.txtP x1 x2:=⟨_,rfl⟩
    have hal':acc.length<=1000:=by omega
    simp only [<- ht] at KP
    have HT:Hid _:=ht
    have HL:Hid _:=hal
    clear hc hx q1 q2 ht hal
    go_wp2_with (first
     | (go_at_call 53;refine (KP _ RA).mono ?_;clear KP;rintro e w1 ⟨rfl,hb1⟩;have bB:=below_via bA hb1;have rB:=own_below rA hb1)
     | (go_at_call 37;refine (mustS_ok _ _).mono ?_;rintro e w2 ⟨rfl,hw2⟩;have:=hw2.symm;subst this)
     | (at_builtin;refine wpList_append_own _ rfl _ _ 53 rfl w.heap.size 9 i0 (.string ByteArray.empty) 1 16 Tryz.underlying53 hi hz0 hz1 hz2 rfl (by decide) _ _ _ rfl (rB.alloc _) ⟨w1.heap.size,0,none⟩ 1 1 [.string ⟨t.toArray⟩] rfl rfl ?c1 ?c2 ?c3 ?c4 ?c5 ?_))
    case c1=>
     intro j u hj
     match j,hj with
     | 0,hj=>simp at hj;subst hj;simp[Addr.add]
    case c2=>intro u hu;simp at hu;subst hu;rfl
    case c3=>unfold maxLen;omega
    case c4=>omega
    case c5=>have:=bB.size;simp;omega
    intro v' w4 hown' hgrow _
    have hb4:Below w.heap.size w w4:=(below_al bB _).grown hgrow (by have:=bB.size;simp;omega) (fun j hj=>(rB.lt j hj).1)
    clear hown hgrow rA bA rB bB d0 d1
    go_wp2_with fail
    refine⟨⟨k+1,acc ++ [t],by omega,by go_num,?_,?_,?_,hb4⟩,by simp[intOf];omega⟩
    ·exact ppL_next hacc.out HX.out (by rw[HT.out];exact Q2.out)
    ·have:=HL.out;simp;omega
    ·simpa [txV] using hown'
   ·have Q2:Hid _:=q2
    have KP:=fun W=>printPrefix_no x1 x2 W q1
    have Q1:Hid _:=q1
    obtain⟨f,hf⟩:∃ f,f=Bur.fault x1 x2:=⟨_,rfl⟩
    have Q3:Hid (f≠0):=fun e=>Q1.out (hf.symm.trans e)
    simp only [<- hf] at KP
    have KM:=fun W=>mustS_no ⟨#[]⟩ f Q3.out W
    have HF:Hid _:=hf
    generalize hth:thC f=th at KM
    have HTH:Hid _:=hth
    clear hc hx q1 q2 hf hth
    go_wp2_with (first
     | (go_at_call 53;refine (KP _).mono ?_;clear KP;rintro e w1 ⟨rfl,hb1⟩;have bB:=below_via bA hb1)
     | (go_at_call 37;refine (KM _).mono ?_;rintro e w2 ⟨rfl,hw2⟩;have:=hw2.symm;subst this))
    exact⟨rfl,.inr ⟨f,Q3.out,ppL_bad hacc.out HX.out (by rw[HF.out];exact Q2.out),by rw[HTH.out]⟩,bB⟩
  ·have hke:k=l.length:=by omega
   subst hke
   have hA:=hacc.out
   rw[List.take_length] at hA
   have HA:Hid _:=hA
   clear hA hacc
   go_wp2_with fail
   go_ret
   exact⟨.inl ⟨acc,_,HA.out,rfl,hown⟩,hb⟩
theorem prefixes_ok {l:List Bur.Sp} {ts:List (List UInt8)} (h:ppL l=.ok ts) (p:Option Addr) (cp:Nat) (w:World) (R:Rv w) (hp:PfA w p l) (hl:l.length<=1000) :
  Calls Tryz.prog 55 #[.slice p l.length cp] w fun e w'=>∃ v,e=.returned v/\w'.ownsRow w.heap.size 9 1 v ts.length (txV ts)/\Below w.heap.size w w':=by
 refine (prefixes_ l p cp w R hp hl).mono ?_
 rintro e w' ⟨⟨ts',v,h1,h2,h3⟩|⟨f,_,h1,_⟩,hb⟩
 ·rw[h] at h1
  injection h1 with h1
  subst h1
  exact⟨v,h2,h3,hb⟩
 ·rw[h] at h1;cases h1
theorem prefixes_no {l:List Bur.Sp} {f:Int} (h:ppL l=.error f) (p:Option Addr) (cp:Nat) (w:World) (R:Rv w) (hp:PfA w p l) (hl:l.length<=1000) :
  Calls Tryz.prog 55 #[.slice p l.length cp] w fun e w'=>e=.panicked (thC f)/\Below w.heap.size w w':=by
 refine (prefixes_ l p cp w R hp hl).mono ?_
 rintro e w' ⟨⟨ts',v,h1,h2,h3⟩|⟨g,_,h1,h2⟩,hb⟩
 ·rw[h] at h1;cases h1
 ·rw[h] at h1
  injection h1 with h1
  subst h1
  exact⟨h2,hb⟩
theorem listed_ (ts:List (List UInt8)) (v:Value) (B:Nat) (w:World) (row:w.ownsRow B 9 1 v ts.length (txV ts)) (hj:(Lib.join ts [32]).length<=140737488355328) (hn:ts.length<=1000000) :
  Calls Tryz.prog 41 #[v] w fun e w'=>e=.returned (.string ⟨(lsT ts).toArray⟩)/\Below w.heap.size w w':=by
 by_cases h0:ts=[]
 ·subst h0
  obtain⟨q,cap,rfl⟩:∃ q cap,v=.slice q 0 cap:=by
   rcases row.2 with ⟨e,_⟩|⟨g,cap,cur,e,_⟩
   ·exact⟨_,_,e⟩
   ·exact⟨_,_,e⟩
  rw[show lsT []=[45] from rfl]
  go_enter Tryz.func41,Tryz.ntmps41
  go_wp2
  go_ret
  exact⟨rfl,below_self _⟩
 ·have hp:0<ts.length:=List.length_pos_iff.2 h0
  obtain⟨g,cap,rfl,hcap⟩:∃ g cap,v=.slice (some ⟨g,0,none⟩) ts.length cap/\ts.length<=cap:=by
   rcases row.2 with ⟨_,e⟩|⟨g,cap,cur,e,_,_,e2,_⟩
   ·omega
   ·exact⟨g,cap,e,e2⟩
  have lg:=(row.lt g rfl).2
  have KJ:=Tryz.strings_Join g 0 cap (ts.map fun t=>⟨t.toArray⟩) ⟨#[32]⟩ w (fun j x hx=>by
   rw[List.getElem?_map] at hx
   obtain⟨t,ht,rfl⟩:=Option.map_eq_some_iff.1 hx
   have hj:j<ts.length:=(List.getElem?_eq_some_iff.1 ht).1
   rw[Nat.zero_add,row.cellAt j (by omega)]
   simp[txV,ht]) lg (by simp;omega) (by simp;omega) (by
    rw[List.map_map,show ((fun x:ByteArray=>x.data.toList) ∘ fun t:List UInt8=>(⟨t.toArray⟩:ByteArray))=id from by funext t;simp,List.map_id]
    exact hj)
  rw[List.length_map,List.map_map,show ((fun x:ByteArray=>x.data.toList) ∘ fun t:List UInt8=>(⟨t.toArray⟩:ByteArray))=id from by funext t;simp,List.map_id] at KJ
  rw[show lsT ts=Lib.join ts [32] from if_neg h0]
  simp only at KJ
  generalize Lib.join ts [32]=z at *
  have n0:¬ ((ts.length:Int)=0):=by omega
  clear row hj h0
  generalize ts.length=n at *
  go_enter Tryz.func41,Tryz.ntmps41
  go_wp2_with (go_at_call 67;refine KJ.mono ?_;clear KJ;rintro e w1 ⟨rfl,hb1⟩)
  go_ret
  exact⟨rfl,hb1⟩
end Go.Proofs.YtcjdoeclblhaeaaGreatDoor.Rn
namespace Go.Proofs.YtcjdoeclblhaeaaGreatDoor.Rn
open Go.RowKit Go.Maps Vs Pa
def ln1 (d:Dk) (v:List UInt8):Rw (List UInt8):=
 if v=[102,108,117,115,104] then byF (flF d) okT
 else if v=[115,97,102,101] then .ok (Lib.itoa (sfN d))
 else if v=[110,101,116,115] then .ok (lsT ((ntL (allP d)).map fun n=>n.data.toList))
 else .error 0
def ln1D (d:Dk) (v:List UInt8):Dk:=if v=[102,108,117,115,104] then flD d else d
def isOpen (v:List UInt8):Bool:=v == [111,112,101,110]
def isQuit (v:List UInt8):Bool:=v == [113,117,105,116]
def isClose (v:List UInt8):Bool:=v == [99,108,111,115,101]
def isCrash (v:List UInt8):Bool:=v == [99,114,97,115,104]
def isFail (v:List UInt8):Bool:=v == [102,97,105,108]
def ln2 (d:Dk) (S:Ses) (v x:List UInt8):Rw (List UInt8)×Dk×Ses:=
 if isOpen v=true then (byF (hoF d S (txt x)) okT,hoD d S (txt x),hoS d S (txt x))
 else if isQuit v=true then (byF (hqF d S (txt x)) okT,hqD d S (txt x),sDel S (txt x))
 else if isClose v=true then (byF (hcF d S (txt x)) (Lib.itoa (hcN d S (txt x))),hcD d S (txt x),sDel S (txt x))
 else if isCrash v=true then (match nmW x with | .ok n=>(.ok okT,cdD d n,[]) | .error f=>(.error f,d,S))
 else if isFail v=true then (match nmW x with | .ok n=>(.ok okT,fdD d n,S) | .error f=>(.error f,d,S))
 else (.error 0,d,S)
def ln3 (d:Dk) (S:Ses) (who v:List UInt8) (ws:List (List UInt8)):Rw (List UInt8)×Dk×Ses:=match clW v ws with
 | .error f=>(.error f,d,S)
 | .ok c=>((byF (haF d S (txt who) c) ()).bind fun _=>anT c.what (haA d S (txt who) c),haD d S (txt who) c,S)
def lnE (d:Dk) (S:Ses):List (List UInt8)->Rw (List UInt8)×Dk×Ses
 | []=>(.error 0,d,S)
 | [v]=>(ln1 d v,ln1D d v,S)
 | [v,x]=>ln2 d S v x
 | who :: v :: x :: ws=>ln3 d S who v (x :: ws)
def ln (s:Dk×Ses) (l:List UInt8):List UInt8×(Dk×Ses):=(told (lnE s.1 s.2 (wds l)).1,(lnE s.1 s.2 (wds l)).2)
def runT (t:List UInt8):List UInt8:=rn ln (dk0 3000,[]) t
theorem runT_fact:runT [111,112,101,110,32,97,10,97,32,110,101,116,32,120,32,111,10,99,108,111,115,101,32,97,10,102,108,121]=[111,107,10,111,107,10,49,10,98,97,100,10]:=by decide +kernel
structure Lk (k:Nat) (d:Dk) (S:Ses):Prop where
 dp:Dp k d
 sl:S.length<=k
theorem Lk.more {k:Nat} {d:Dk} {S:Ses} (h:Lk k d S):Lk (k+1) d S:=⟨h.dp.more,Nat.le_succ_of_le h.sl⟩
theorem Lk.new:Lk 0 (dk0 3000) []:=⟨Dp.new (by decide) (by decide),Nat.le_refl _⟩
theorem ln1_lk {k:Nat} {d:Dk} {S:Ses} (h:Lk k d S) (v:List UInt8):(ln1D d v=d \/ 5<=v.length)/\Lk (k+1) (ln1D d v) S:=by
 unfold ln1D
 by_cases e:v=[102,108,117,115,104]
 ·rw[if_pos e]
  exact⟨.inr (by rw[e];decide),⟨h.dp.fl,Nat.le_succ_of_le h.sl⟩⟩
 ·rw[if_neg e]
  exact⟨.inl rfl,h.more⟩
theorem ln2_lk {k:Nat} {d:Dk} {S:Ses} (h:Lk k d S) (v x:List UInt8):((ln2 d S v x).2=(d,S) \/ 4<=v.length)/\Lk (k+1) (ln2 d S v x).2.1 (ln2 d S v x).2.2:=by
 unfold ln2
 split
 ·rename_i e
  exact⟨.inr (by rw[eq_of_beq e];decide),⟨dp_open h.dp _,Nat.le_trans (hoS_len _ _ _) (Nat.succ_le_succ h.sl)⟩⟩
 split
 ·rename_i e
  exact⟨.inr (by rw[eq_of_beq e];decide),⟨dp_quit h.dp _,Nat.le_trans (sDel_len _ _) (Nat.le_succ_of_le h.sl)⟩⟩
 split
 ·rename_i e
  exact⟨.inr (by rw[eq_of_beq e];decide),⟨dp_close h.dp _,Nat.le_trans (sDel_len _ _) (Nat.le_succ_of_le h.sl)⟩⟩
 split
 ·rename_i e
  refine⟨.inr (by rw[eq_of_beq e];decide),?_⟩
  cases nmW x with
  | ok n=>exact⟨h.dp.cd n,Nat.zero_le _⟩
  | error f=>exact h.more
 split
 ·rename_i e
  refine⟨.inr (by rw[eq_of_beq e];decide),?_⟩
  cases q:nmW x with
  | ok n=>exact⟨h.dp.fd (nmW_bd q).2,Nat.le_succ_of_le h.sl⟩
  | error f=>exact h.more
 ·exact⟨.inl rfl,h.more⟩
theorem ln3_lk {k:Nat} {d:Dk} {S:Ses} (h:Lk k d S) (who v:List UInt8) (ws:List (List UInt8)):((ln3 d S who v ws).2=(d,S) \/ 3<=v.length)/\Lk (k+1) (ln3 d S who v ws).2.1 (ln3 d S who v ws).2.2:=by
 unfold ln3
 cases e:clW v ws with
 | ok c=>exact⟨.inr (clW_len e),⟨dp_ask h.dp _ c,Nat.le_succ_of_le h.sl⟩⟩
 | error f=>exact⟨.inl rfl,h.more⟩
theorem lnE_lk {k:Nat} {d:Dk} {S:Ses} (h:Lk k d S) (l:List UInt8):((lnE d S (wds l)).2=(d,S) \/ 5<=l.length)/\Lk (k+1) (lnE d S (wds l)).2.1 (lnE d S (wds l)).2.2:=by
 have hs:=wds_sum l
 generalize wds l=ws at *
 match ws,hs with
 | [],hs=>exact⟨.inl rfl,h.more⟩
 | [v],hs=>
  obtain⟨g1,g2⟩:=ln1_lk h v
  refine⟨g1.imp (fun e=>?_) (fun e=>?_),g2⟩
  ·show (ln1D d v,S)=_;rw[e]
  ·simp[wsum] at hs;omega
 | [v,x],hs=>
  obtain⟨g1,g2⟩:=ln2_lk h v x
  refine⟨g1.imp (fun e=>e) (fun e=>?_),g2⟩
  simp[wsum] at hs;omega
 | who :: v :: x :: ws,hs=>
  obtain⟨g1,g2⟩:=ln3_lk h who v (x :: ws)
  refine⟨g1.imp (fun e=>e) (fun e=>?_),g2⟩
  simp[wsum] at hs;omega
theorem ln_lk {k:Nat} {s:Dk×Ses} (h:Lk k s.1 s.2) (l:List UInt8):∃ k',5*k'<=5*k+l.length/\Lk k' (ln s l).2.1 (ln s l).2.2:=by
 obtain⟨g1,g2⟩:=lnE_lk h l
 rcases g1 with e|e
 ·refine⟨k,by omega,?_⟩
  show Lk k (lnE s.1 s.2 (wds l)).2.1 (lnE s.1 s.2 (wds l)).2.2
  rw[e]
  exact h
 ·exact⟨k+1,by omega,g2⟩
end Go.Proofs.YtcjdoeclblhaeaaGreatDoor.Rn
namespace Go.Proofs.YtcjdoeclblhaeaaGreatDoor.Rn
open Go.RowKit Go.Maps Pa Vs
theorem strSelf (a:ByteArray):Value.string a=.string ⟨a.data.toList.toArray⟩:=by cases a;simp
abbrev strV (t:List UInt8):Value:=.string ⟨t.toArray⟩
theorem rowForm {w:World} {B e size n:Nat} {v:Value} {xs:List Value} (h:w.ownsRow B e size v n xs):∃ p cp,v=.slice p n cp:=by
 rcases h.2 with ⟨e,e2⟩|⟨g,cap,cur,e,_⟩
 ·exact⟨none,0,by rw[e,e2]⟩
 ·exact⟨_,_,e⟩
section
variable {T:Td} {w0 w w':World} {K:Nat->Prop} {H:Nat} {d:Dk} {S:Ses}
def Lo (T:Td) (w0:World) (K:Nat->Prop) (H:Nat) (r:Rw (List UInt8)×Dk×Ses) (w:World) (e:Ending) (w':World):Prop:=
 e=enR (r.1.map strV)/\H1 T w0 K w' H r.2.1 r.2.2/\But (fun j=>¬ K j) w w'
theorem Lo.of (V:DFace T) {K' K2:Nat->Prop} {w2 w3 w4:World} {d':Dk} {S':Ses} {r:Rw (List UInt8)} {e:Ending} (he:e=enR (r.map strV)) (h:H1 T w0 K w H d S) (h2:Below w.heap.size w w2) (hk:∀ j,K j->K' j) (h3:But (fun j=>¬ K' j) w2 w3) (hk2:∀ j,K j->K2 j) (hh:H1 T w0 K2 w3 H d' S') (h4:Below w3.heap.size w3 w4):Lo T w0 K H (r,d',S') w e w4:=by
 refine⟨he,(hh.same V h4).mono hk2 h.old,?_⟩
 exact ((But.below h2).trans (h3.mono (fun j _ hj q=>hj (hk j q)))).step h4
theorem askN (V:DFace T) (R0:Rv w0) (h:H1 T w0 K w H d S) (who v:List UInt8) (ws:List (List UInt8)) (b cap:Nat) (hW:Wd w b 2 ws) (f:Int) (hc:clW v ws=.error f) :
  Calls Tryz.prog 26 #[.pointer (some ⟨H,0,none⟩),.string ⟨who.toArray⟩,.string ⟨v.toArray⟩,.slice (some ⟨b,2,none⟩) ws.length cap] w fun e w'=>Lo T w0 K H (ln3 d S who v ws) w e w':=by
 have R:=R0.step h.bl
 have KC:=call_no hc w b cap R hW
 have e:ln3 d S who v ws=(.error f,d,S):=by unfold ln3;rw[hc]
 rw[e]
 have L:∀ {w1:World} {th:List PanicEntry},th=thC f->Below w.heap.size w w1->Lo T w0 K H (.error f,d,S) w (.panicked th) w1:=fun ht hb=>⟨by rw[ht];rfl,h.same V hb,.below hb⟩
 have LH:Hid _:=@L
 clear L
 generalize hth:thC f=th at KC
 have HTH:Hid _:=hth
 clear hth
 go_enter Tryz.func26,Tryz.ntmps26
 go_wp2_with (go_at_call 50;refine KC.mono ?_;clear KC;rintro e w1 ⟨rfl,hb1⟩)
 exact⟨rfl,LH.out HTH.out.symm hb1⟩
theorem askF (V:DFace T) {k:Nat} (R0:Rv w0) (h:H1 T w0 K w H d S) (dp:Dp k d) (hk:k<=800) (who v:List UInt8) (ws:List (List UInt8)) (b cap:Nat) (hW:Wd w b 2 ws) (hw:who.length<=4294967280) (c:Cl) (hc:clW v ws=.ok c) (hf:haF d S (txt who) c≠0) :
  Calls Tryz.prog 26 #[.pointer (some ⟨H,0,none⟩),.string ⟨who.toArray⟩,.string ⟨v.toArray⟩,.slice (some ⟨b,2,none⟩) ws.length cap] w fun e w'=>Lo T w0 K H (ln3 d S who v ws) w e w':=by
 have R:=R0.step h.bl
 have KC:=call_ok hc w b cap R hW
 have hwm:(⟨who.toArray⟩:ByteArray).size<=maxLen:=by unfold maxLen;simp[ByteArray.size];omega
 have KA:∀ w2,Below w.heap.size w w2->Calls Tryz.prog 52 #[.pointer (some ⟨H,0,none⟩),.string ⟨who.toArray⟩,clV c] w2 fun e w'=>∃ u,e=.returned (.tuple #[anV (haA d S (txt who) c) u,ev (haF d S (txt who) c)])/\w'.ownsRow w2.heap.size 105 2 u (haA d S (txt who) c).l.length (pfV (haA d S (txt who) c).l)/\H1 T w0 (fun j=>(K j \/ (w.heap.size<=j/\j<w2.heap.size)) \/ u.ownBlock=some j) w' H (haD d S (txt who) c) S/\But (fun j=>¬ (K j \/ (w.heap.size<=j/\j<w2.heap.size))) w2 w':=fun w2 hb=>(h.step V hb).ask V ⟨who.toArray⟩ c dp hk hwm
 have e:ln3 d S who v ws=(.error (haF d S (txt who) c),haD d S (txt who) c,S):=by
  unfold ln3;rw[hc]
  show ((byF (haF d S (txt who) c) ()).bind _,_,_)=_
  rw[show byF (haF d S (txt who) c) ()=.error (haF d S (txt who) c) from if_neg hf]
  rfl
 rw[e]
 have L:∀ {w2 w3 w4:World} {u:Value} {th:List PanicEntry},th=thC (haF d S (txt who) c)->Below w.heap.size w w2->H1 T w0 (fun j=>(K j \/ (w.heap.size<=j/\j<w2.heap.size)) \/ u.ownBlock=some j) w3 H (haD d S (txt who) c) S->But (fun j=>¬ (K j \/ (w.heap.size<=j/\j<w2.heap.size))) w2 w3->Below w3.heap.size w3 w4->Lo T w0 K H (.error (haF d S (txt who) c),haD d S (txt who) c,S) w (.panicked th) w4:=
  fun ht b2 h3 b3 b4=>Lo.of V (r:=.error (haF d S (txt who) c)) (by rw[ht];rfl) h b2 (fun j hj=>.inl hj) b3 (fun j hj=>.inl (.inl hj)) h3 b4
 have LH:Hid _:=@L
 have hm:=fun a1 a2 a3 a4 q n cp W=>mustA_no a1 a2 a3 a4 q n cp (haF d S (txt who) c) hf W
 simp only [ev_ne hf] at KA
 generalize hth:thC (haF d S (txt who) c)=th at hm
 have HTH:Hid _:=hth
 clear L e hf hth
 generalize haA d S (txt who) c=a at *
 generalize haF d S (txt who) c=f at *
 obtain⟨⟨a1,a2⟩,a3,a4,a5⟩:=a
 obtain⟨what,nm,⟨p1,p2⟩,len,ad,ow⟩:=c
 go_enter Tryz.func26,Tryz.ntmps26
 go_wp2_with (first
  | (go_at_call 50;refine KC.mono ?_;clear KC;rintro e w1 ⟨rfl,hb1⟩;have hb2:=below_al hb1 (.cells (clA ⟨what,nm,(p1,p2),len,ad,ow⟩) 107))
  | (go_at_call 52;refine (KA _ hb2).mono ?_;clear KA;rintro e w3 ⟨u,rfl,row,h3,b3⟩;obtain⟨q,cp,rfl⟩:=rowForm row)
  | (go_at_call 51;refine (hm _ _ _ _ _ _ _ _).mono ?_;clear hm;rintro e w4 ⟨rfl,hb4⟩))
 exact⟨rfl,LH.out HTH.out.symm hb2 h3 b3 hb4⟩
theorem askO (V:DFace T) {k:Nat} (R0:Rv w0) (h:H1 T w0 K w H d S) (dp:Dp k d) (hk:k<=800) (who v:List UInt8) (ws:List (List UInt8)) (b cap:Nat) (hW:Wd w b 2 ws) (hw:who.length<=4294967280) (c:Cl) (hc:clW v ws=.ok c) (hf:haF d S (txt who) c=0) (h6:(c.what==6)=false) (h7:(c.what==7)=false) (h8:(c.what==8)=false) (h9:(c.what==9)=false) (hr:anT c.what (haA d S (txt who) c)=.ok okT) :
  Calls Tryz.prog 26 #[.pointer (some ⟨H,0,none⟩),.string ⟨who.toArray⟩,.string ⟨v.toArray⟩,.slice (some ⟨b,2,none⟩) ws.length cap] w fun e w'=>Lo T w0 K H (ln3 d S who v ws) w e w':=by
 have R:=R0.step h.bl
 have KC:=call_ok hc w b cap R hW
 have hwm:(⟨who.toArray⟩:ByteArray).size<=maxLen:=by unfold maxLen;simp[ByteArray.size];omega
 have KA:∀ w2,Below w.heap.size w w2->Calls Tryz.prog 52 #[.pointer (some ⟨H,0,none⟩),.string ⟨who.toArray⟩,clV c] w2 fun e w'=>∃ u,e=.returned (.tuple #[anV (haA d S (txt who) c) u,ev (haF d S (txt who) c)])/\w'.ownsRow w2.heap.size 105 2 u (haA d S (txt who) c).l.length (pfV (haA d S (txt who) c).l)/\H1 T w0 (fun j=>(K j \/ (w.heap.size<=j/\j<w2.heap.size)) \/ u.ownBlock=some j) w' H (haD d S (txt who) c) S/\But (fun j=>¬ (K j \/ (w.heap.size<=j/\j<w2.heap.size))) w2 w':=fun w2 hb=>(h.step V hb).ask V ⟨who.toArray⟩ c dp hk hwm
 have e:ln3 d S who v ws=(.ok okT,haD d S (txt who) c,S):=by
  unfold ln3;rw[hc]
  show ((byF (haF d S (txt who) c) ()).bind _,_,_)=_
  rw[show byF (haF d S (txt who) c) ()=.ok () from if_pos hf]
  show (anT c.what (haA d S (txt who) c),_,_)=_
  rw[hr]
 rw[e]
 have L:∀ {w2 w3 w4:World} {u:Value} {z:Ending},z=enR ((.ok okT:Rw (List UInt8)).map strV)->Below w.heap.size w w2->H1 T w0 (fun j=>(K j \/ (w.heap.size<=j/\j<w2.heap.size)) \/ u.ownBlock=some j) w3 H (haD d S (txt who) c) S->But (fun j=>¬ (K j \/ (w.heap.size<=j/\j<w2.heap.size))) w2 w3->Below w3.heap.size w3 w4->Lo T w0 K H (.ok okT,haD d S (txt who) c,S) w z w4:=
  fun ht b2 h3 b3 b4=>Lo.of V (r:=.ok okT) ht h b2 (fun j hj=>.inl hj) b3 (fun j hj=>.inl (.inl hj)) h3 b4
 have LH:Hid _:=@L
 have wR:∀ {w3:World},Below w0.heap.size w0 w3->Rv w3:=fun hb=>R0.step hb
 have R3:Hid _:=@wR
 simp only [hf,ev_0] at KA
 clear L e hf hr wR
 generalize haA d S (txt who) c=a at *
 obtain⟨⟨a1,a2⟩,a3,a4,a5⟩:=a
 obtain⟨what,nm,⟨p1,p2⟩,len,ad,ow⟩:=c
 go_enter Tryz.func26,Tryz.ntmps26
 go_wp2_with (first
  | (go_at_call 50;refine KC.mono ?_;clear KC;rintro e w1 ⟨rfl,hb1⟩;have hb2:=below_al hb1 (.cells (clA ⟨what,nm,(p1,p2),len,ad,ow⟩) 107);have s1:=hb1.size;have x0:(w1.alloc (.cells (clA ⟨what,nm,(p1,p2),len,ad,ow⟩) 107)).cell? ⟨w1.heap.size,0,none⟩=some (.int .i64 what):=(by simp))
  | (go_at_call 52;refine (KA _ hb2).mono ?_;clear KA;rintro e w3 ⟨u,rfl,row,h3,b3⟩;obtain⟨q,cp,rfl⟩:=rowForm row;have y0:=(b3.cell (p:=⟨w1.heap.size,0,none⟩) (by simp) (by intro g;exact g (.inr ⟨s1,by simp⟩))).trans x0)
  | (go_at_call 51;refine (mustA_ok _ _ _ _ _ _ _ _).mono ?_;rintro e w4 ⟨rfl,hb4⟩;have z0:=cell_lat hb4 y0;have lt4:=World.block_lt_of_cell? _ _ z0;have hb5:=below_al hb4 (.cells #[.int .i64 a1,.int .i64 a2,.int .i64 a3,.string a4,.slice q a5.length cp] 111);have R5:=(R3.out h3.bl).step hb5)
  | fail)
 go_ret
 exact LH.out rfl hb2 h3 b3 hb5
theorem askW (V:DFace T) {k:Nat} (R0:Rv w0) (h:H1 T w0 K w H d S) (dp:Dp k d) (hk:k<=800) (who v:List UInt8) (ws:List (List UInt8)) (b cap:Nat) (hW:Wd w b 2 ws) (hw:who.length<=4294967280) (c:Cl) (hc:clW v ws=.ok c) (hf:haF d S (txt who) c=0) (h6:(c.what==6)=false) (h7:(c.what==7)=false) (h8:(c.what==8)=false) (h9:(c.what==9)=true) (hr:anT c.what (haA d S (txt who) c)=.ok (haA d S (txt who) c).ow.data.toList) :
  Calls Tryz.prog 26 #[.pointer (some ⟨H,0,none⟩),.string ⟨who.toArray⟩,.string ⟨v.toArray⟩,.slice (some ⟨b,2,none⟩) ws.length cap] w fun e w'=>Lo T w0 K H (ln3 d S who v ws) w e w':=by
 have R:=R0.step h.bl
 have KC:=call_ok hc w b cap R hW
 have hwm:(⟨who.toArray⟩:ByteArray).size<=maxLen:=by unfold maxLen;simp[ByteArray.size];omega
 have KA:∀ w2,Below w.heap.size w w2->Calls Tryz.prog 52 #[.pointer (some ⟨H,0,none⟩),.string ⟨who.toArray⟩,clV c] w2 fun e w'=>∃ u,e=.returned (.tuple #[anV (haA d S (txt who) c) u,ev (haF d S (txt who) c)])/\w'.ownsRow w2.heap.size 105 2 u (haA d S (txt who) c).l.length (pfV (haA d S (txt who) c).l)/\H1 T w0 (fun j=>(K j \/ (w.heap.size<=j/\j<w2.heap.size)) \/ u.ownBlock=some j) w' H (haD d S (txt who) c) S/\But (fun j=>¬ (K j \/ (w.heap.size<=j/\j<w2.heap.size))) w2 w':=fun w2 hb=>(h.step V hb).ask V ⟨who.toArray⟩ c dp hk hwm
 have e:ln3 d S who v ws=(.ok (haA d S (txt who) c).ow.data.toList,haD d S (txt who) c,S):=by
  unfold ln3;rw[hc]
  show ((byF (haF d S (txt who) c) ()).bind _,_,_)=_
  rw[show byF (haF d S (txt who) c) ()=.ok () from if_pos hf]
  show (anT c.what (haA d S (txt who) c),_,_)=_
  rw[hr]
 rw[e]
 have L:∀ {w2 w3 w4:World} {u:Value} {z:Ending},z=enR ((.ok (haA d S (txt who) c).ow.data.toList:Rw (List UInt8)).map strV)->Below w.heap.size w w2->H1 T w0 (fun j=>(K j \/ (w.heap.size<=j/\j<w2.heap.size)) \/ u.ownBlock=some j) w3 H (haD d S (txt who) c) S->But (fun j=>¬ (K j \/ (w.heap.size<=j/\j<w2.heap.size))) w2 w3->Below w3.heap.size w3 w4->Lo T w0 K H (.ok (haA d S (txt who) c).ow.data.toList,haD d S (txt who) c,S) w z w4:=
  fun ht b2 h3 b3 b4=>Lo.of V (r:=.ok (haA d S (txt who) c).ow.data.toList) ht h b2 (fun j hj=>.inl hj) b3 (fun j hj=>.inl (.inl hj)) h3 b4
 have LH:Hid _:=@L
 have wR:∀ {w3:World},Below w0.heap.size w0 w3->Rv w3:=fun hb=>R0.step hb
 have R3:Hid _:=@wR
 simp only [hf,ev_0] at KA
 clear L e hf hr wR
 generalize haA d S (txt who) c=a at *
 obtain⟨⟨a1,a2⟩,a3,a4,a5⟩:=a
 obtain⟨what,nm,⟨p1,p2⟩,len,ad,ow⟩:=c
 go_enter Tryz.func26,Tryz.ntmps26
 go_wp2_with (first
  | (go_at_call 50;refine KC.mono ?_;clear KC;rintro e w1 ⟨rfl,hb1⟩;have hb2:=below_al hb1 (.cells (clA ⟨what,nm,(p1,p2),len,ad,ow⟩) 107);have s1:=hb1.size;have x0:(w1.alloc (.cells (clA ⟨what,nm,(p1,p2),len,ad,ow⟩) 107)).cell? ⟨w1.heap.size,0,none⟩=some (.int .i64 what):=(by simp))
  | (go_at_call 52;refine (KA _ hb2).mono ?_;clear KA;rintro e w3 ⟨u,rfl,row,h3,b3⟩;obtain⟨q,cp,rfl⟩:=rowForm row;have y0:=(b3.cell (p:=⟨w1.heap.size,0,none⟩) (by simp) (by intro g;exact g (.inr ⟨s1,by simp⟩))).trans x0)
  | (go_at_call 51;refine (mustA_ok _ _ _ _ _ _ _ _).mono ?_;rintro e w4 ⟨rfl,hb4⟩;have z0:=cell_lat hb4 y0;have lt4:=World.block_lt_of_cell? _ _ z0;have hb5:=below_al hb4 (.cells #[.int .i64 a1,.int .i64 a2,.int .i64 a3,.string a4,.slice q a5.length cp] 111);have R5:=(R3.out h3.bl).step hb5)
  | fail)
 go_ret
 exact LH.out (congrArg Ending.returned (strSelf a4)) hb2 h3 b3 hb5
end
end Go.Proofs.YtcjdoeclblhaeaaGreatDoor.Rn
namespace Go.Proofs.YtcjdoeclblhaeaaGreatDoor.Rn
open Go.RowKit Go.Maps Pa Vs
section
variable {T:Td} {w0 w w':World} {K:Nat->Prop} {H:Nat} {d:Dk} {S:Ses}
theorem askP (V:DFace T) {k:Nat} (R0:Rv w0) (h:H1 T w0 K w H d S) (dp:Dp k d) (hk:k<=800) (who v:List UInt8) (ws:List (List UInt8)) (b cap:Nat) (hW:Wd w b 2 ws) (hw:who.length<=4294967280) (c:Cl) (hc:clW v ws=.ok c) (hf:haF d S (txt who) c=0) (h6:(c.what==6)=true) (hq:Bur.fault (haA d S (txt who) c).p.1 (haA d S (txt who) c).p.2=0) (hr:anT c.what (haA d S (txt who) c)=.ok (Bur.txtP (haA d S (txt who) c).p.1 (haA d S (txt who) c).p.2)) :
  Calls Tryz.prog 26 #[.pointer (some ⟨H,0,none⟩),.string ⟨who.toArray⟩,.string ⟨v.toArray⟩,.slice (some ⟨b,2,none⟩) ws.length cap] w fun e w'=>Lo T w0 K H (ln3 d S who v ws) w e w':=by
 have R:=R0.step h.bl
 have KC:=call_ok hc w b cap R hW
 have hwm:(⟨who.toArray⟩:ByteArray).size<=maxLen:=by unfold maxLen;simp[ByteArray.size];omega
 have KA:∀ w2,Below w.heap.size w w2->Calls Tryz.prog 52 #[.pointer (some ⟨H,0,none⟩),.string ⟨who.toArray⟩,clV c] w2 fun e w'=>∃ u,e=.returned (.tuple #[anV (haA d S (txt who) c) u,ev (haF d S (txt who) c)])/\w'.ownsRow w2.heap.size 105 2 u (haA d S (txt who) c).l.length (pfV (haA d S (txt who) c).l)/\H1 T w0 (fun j=>(K j \/ (w.heap.size<=j/\j<w2.heap.size)) \/ u.ownBlock=some j) w' H (haD d S (txt who) c) S/\But (fun j=>¬ (K j \/ (w.heap.size<=j/\j<w2.heap.size))) w2 w':=fun w2 hb=>(h.step V hb).ask V ⟨who.toArray⟩ c dp hk hwm
 have e:ln3 d S who v ws=(.ok (Bur.txtP (haA d S (txt who) c).p.1 (haA d S (txt who) c).p.2),haD d S (txt who) c,S):=by
  unfold ln3;rw[hc]
  show ((byF (haF d S (txt who) c) ()).bind _,_,_)=_
  rw[show byF (haF d S (txt who) c) ()=.ok () from if_pos hf]
  show (anT c.what (haA d S (txt who) c),_,_)=_
  rw[hr]
 rw[e]
 have L:∀ {w2 w3 w4:World} {u:Value} {z:Ending},z=enR ((.ok (Bur.txtP (haA d S (txt who) c).p.1 (haA d S (txt who) c).p.2):Rw (List UInt8)).map strV)->Below w.heap.size w w2->H1 T w0 (fun j=>(K j \/ (w.heap.size<=j/\j<w2.heap.size)) \/ u.ownBlock=some j) w3 H (haD d S (txt who) c) S->But (fun j=>¬ (K j \/ (w.heap.size<=j/\j<w2.heap.size))) w2 w3->Below w3.heap.size w3 w4->Lo T w0 K H (.ok (Bur.txtP (haA d S (txt who) c).p.1 (haA d S (txt who) c).p.2),haD d S (txt who) c,S) w z w4:=
  fun ht b2 h3 b3 b4=>Lo.of V (r:=.ok (Bur.txtP (haA d S (txt who) c).p.1 (haA d S (txt who) c).p.2)) ht h b2 (fun j hj=>.inl hj) b3 (fun j hj=>.inl (.inl hj)) h3 b4
 have LH:Hid _:=@L
 have wR:∀ {w3:World},Below w0.heap.size w0 w3->Rv w3:=fun hb=>R0.step hb
 have R3:Hid _:=@wR
 simp only [hf,ev_0] at KA
 have KP:=fun W hW=>printPrefix_ok (haA d S (txt who) c).p.1 (haA d S (txt who) c).p.2 W hq hW
 clear hq
 clear L e hf hr wR
 generalize haA d S (txt who) c=a at *
 obtain⟨⟨a1,a2⟩,a3,a4,a5⟩:=a
 obtain⟨what,nm,⟨p1,p2⟩,len,ad,ow⟩:=c
 go_enter Tryz.func26,Tryz.ntmps26
 go_wp2_with (first
  | (go_at_call 50;refine KC.mono ?_;clear KC;rintro e w1 ⟨rfl,hb1⟩;have hb2:=below_al hb1 (.cells (clA ⟨what,nm,(p1,p2),len,ad,ow⟩) 107);have s1:=hb1.size;have x0:(w1.alloc (.cells (clA ⟨what,nm,(p1,p2),len,ad,ow⟩) 107)).cell? ⟨w1.heap.size,0,none⟩=some (.int .i64 what):=(by simp))
  | (go_at_call 52;refine (KA _ hb2).mono ?_;clear KA;rintro e w3 ⟨u,rfl,row,h3,b3⟩;obtain⟨q,cp,rfl⟩:=rowForm row;have y0:=(b3.cell (p:=⟨w1.heap.size,0,none⟩) (by simp) (by intro g;exact g (.inr ⟨s1,by simp⟩))).trans x0)
  | (go_at_call 51;refine (mustA_ok _ _ _ _ _ _ _ _).mono ?_;rintro e w4 ⟨rfl,hb4⟩;have z0:=cell_lat hb4 y0;have lt4:=World.block_lt_of_cell? _ _ z0;have hb5:=below_al hb4 (.cells #[.int .i64 a1,.int .i64 a2,.int .i64 a3,.string a4,.slice q a5.length cp] 111);have R5:=(R3.out h3.bl).step hb5)
  | (go_at_call 53;refine (KP _ R5.pw).mono ?_;clear KP;rintro e w6 ⟨rfl,hb6⟩)
  | (go_at_call 37;refine (mustS_ok _ _).mono ?_;rintro e w7 ⟨rfl,hw7⟩;have:=hw7.symm;subst this))
 go_ret
 exact LH.out rfl hb2 h3 b3 (below_via hb5 hb6)
theorem askPn (V:DFace T) {k:Nat} (R0:Rv w0) (h:H1 T w0 K w H d S) (dp:Dp k d) (hk:k<=800) (who v:List UInt8) (ws:List (List UInt8)) (b cap:Nat) (hW:Wd w b 2 ws) (hw:who.length<=4294967280) (c:Cl) (hc:clW v ws=.ok c) (hf:haF d S (txt who) c=0) (h6:(c.what==6)=true) (hq:Bur.fault (haA d S (txt who) c).p.1 (haA d S (txt who) c).p.2≠0) (hr:anT c.what (haA d S (txt who) c)=.error (Bur.fault (haA d S (txt who) c).p.1 (haA d S (txt who) c).p.2)) :
  Calls Tryz.prog 26 #[.pointer (some ⟨H,0,none⟩),.string ⟨who.toArray⟩,.string ⟨v.toArray⟩,.slice (some ⟨b,2,none⟩) ws.length cap] w fun e w'=>Lo T w0 K H (ln3 d S who v ws) w e w':=by
 have R:=R0.step h.bl
 have KC:=call_ok hc w b cap R hW
 have hwm:(⟨who.toArray⟩:ByteArray).size<=maxLen:=by unfold maxLen;simp[ByteArray.size];omega
 have KA:∀ w2,Below w.heap.size w w2->Calls Tryz.prog 52 #[.pointer (some ⟨H,0,none⟩),.string ⟨who.toArray⟩,clV c] w2 fun e w'=>∃ u,e=.returned (.tuple #[anV (haA d S (txt who) c) u,ev (haF d S (txt who) c)])/\w'.ownsRow w2.heap.size 105 2 u (haA d S (txt who) c).l.length (pfV (haA d S (txt who) c).l)/\H1 T w0 (fun j=>(K j \/ (w.heap.size<=j/\j<w2.heap.size)) \/ u.ownBlock=some j) w' H (haD d S (txt who) c) S/\But (fun j=>¬ (K j \/ (w.heap.size<=j/\j<w2.heap.size))) w2 w':=fun w2 hb=>(h.step V hb).ask V ⟨who.toArray⟩ c dp hk hwm
 have e:ln3 d S who v ws=(.error (Bur.fault (haA d S (txt who) c).p.1 (haA d S (txt who) c).p.2),haD d S (txt who) c,S):=by
  unfold ln3;rw[hc]
  show ((byF (haF d S (txt who) c) ()).bind _,_,_)=_
  rw[show byF (haF d S (txt who) c) ()=.ok () from if_pos hf]
  show (anT c.what (haA d S (txt who) c),_,_)=_
  rw[hr]
 rw[e]
 have L:∀ {w2 w3 w4:World} {u:Value} {z:Ending},z=enR ((.error (Bur.fault (haA d S (txt who) c).p.1 (haA d S (txt who) c).p.2):Rw (List UInt8)).map strV)->Below w.heap.size w w2->H1 T w0 (fun j=>(K j \/ (w.heap.size<=j/\j<w2.heap.size)) \/ u.ownBlock=some j) w3 H (haD d S (txt who) c) S->But (fun j=>¬ (K j \/ (w.heap.size<=j/\j<w2.heap.size))) w2 w3->Below w3.heap.size w3 w4->Lo T w0 K H (.error (Bur.fault (haA d S (txt who) c).p.1 (haA d S (txt who) c).p.2),haD d S (txt who) c,S) w z w4:=
  fun ht b2 h3 b3 b4=>Lo.of V (r:=.error (Bur.fault (haA d S (txt who) c).p.1 (haA d S (txt who) c).p.2)) ht h b2 (fun j hj=>.inl hj) b3 (fun j hj=>.inl (.inl hj)) h3 b4
 have LH:Hid _:=@L
 have wR:∀ {w3:World},Below w0.heap.size w0 w3->Rv w3:=fun hb=>R0.step hb
 have R3:Hid _:=@wR
 simp only [hf,ev_0] at KA
 have KP:=fun W=>printPrefix_no (haA d S (txt who) c).p.1 (haA d S (txt who) c).p.2 W hq
 have KM:=fun W=>mustS_no ⟨#[]⟩ (Bur.fault (haA d S (txt who) c).p.1 (haA d S (txt who) c).p.2) hq W
 generalize hth:thC (Bur.fault (haA d S (txt who) c).p.1 (haA d S (txt who) c).p.2)=th at KM
 have HTH:Hid _:=hth
 clear hq hth
 clear L e hf hr wR
 generalize haA d S (txt who) c=a at *
 obtain⟨⟨a1,a2⟩,a3,a4,a5⟩:=a
 obtain⟨what,nm,⟨p1,p2⟩,len,ad,ow⟩:=c
 go_enter Tryz.func26,Tryz.ntmps26
 go_wp2_with (first
  | (go_at_call 50;refine KC.mono ?_;clear KC;rintro e w1 ⟨rfl,hb1⟩;have hb2:=below_al hb1 (.cells (clA ⟨what,nm,(p1,p2),len,ad,ow⟩) 107);have s1:=hb1.size;have x0:(w1.alloc (.cells (clA ⟨what,nm,(p1,p2),len,ad,ow⟩) 107)).cell? ⟨w1.heap.size,0,none⟩=some (.int .i64 what):=(by simp))
  | (go_at_call 52;refine (KA _ hb2).mono ?_;clear KA;rintro e w3 ⟨u,rfl,row,h3,b3⟩;obtain⟨q,cp,rfl⟩:=rowForm row;have y0:=(b3.cell (p:=⟨w1.heap.size,0,none⟩) (by simp) (by intro g;exact g (.inr ⟨s1,by simp⟩))).trans x0)
  | (go_at_call 51;refine (mustA_ok _ _ _ _ _ _ _ _).mono ?_;rintro e w4 ⟨rfl,hb4⟩;have z0:=cell_lat hb4 y0;have lt4:=World.block_lt_of_cell? _ _ z0;have hb5:=below_al hb4 (.cells #[.int .i64 a1,.int .i64 a2,.int .i64 a3,.string a4,.slice q a5.length cp] 111);have R5:=(R3.out h3.bl).step hb5)
  | (go_at_call 53;refine (KP _).mono ?_;clear KP;rintro e w6 ⟨rfl,hb6⟩)
  | (go_at_call 37;refine (KM _).mono ?_;rintro e w7 ⟨rfl,hw7⟩;have:=hw7.symm;subst this))
 exact⟨rfl,LH.out (by rw[<- HTH.out];rfl) hb2 h3 b3 (below_via hb5 hb6)⟩
end
end Go.Proofs.YtcjdoeclblhaeaaGreatDoor.Rn
namespace Go.Proofs.YtcjdoeclblhaeaaGreatDoor.Rn
open Go.RowKit Go.Maps Pa Vs
section
variable {T:Td} {w0 w w':World} {K:Nat->Prop} {H:Nat} {d:Dk} {S:Ses}
theorem askA (V:DFace T) {k:Nat} (R0:Rv w0) (h:H1 T w0 K w H d S) (dp:Dp k d) (hk:k<=800) (who v:List UInt8) (ws:List (List UInt8)) (b cap:Nat) (hW:Wd w b 2 ws) (hw:who.length<=4294967280) (c:Cl) (hc:clW v ws=.ok c) (hf:haF d S (txt who) c=0) (h6:(c.what==6)=false) (h7:(c.what==7)=true) (hq:Bur.isA (haA d S (txt who) c).ad=true) (hr:anT c.what (haA d S (txt who) c)=.ok (Bur.txtA (haA d S (txt who) c).ad)) :
  Calls Tryz.prog 26 #[.pointer (some ⟨H,0,none⟩),.string ⟨who.toArray⟩,.string ⟨v.toArray⟩,.slice (some ⟨b,2,none⟩) ws.length cap] w fun e w'=>Lo T w0 K H (ln3 d S who v ws) w e w':=by
 have R:=R0.step h.bl
 have KC:=call_ok hc w b cap R hW
 have hwm:(⟨who.toArray⟩:ByteArray).size<=maxLen:=by unfold maxLen;simp[ByteArray.size];omega
 have KA:∀ w2,Below w.heap.size w w2->Calls Tryz.prog 52 #[.pointer (some ⟨H,0,none⟩),.string ⟨who.toArray⟩,clV c] w2 fun e w'=>∃ u,e=.returned (.tuple #[anV (haA d S (txt who) c) u,ev (haF d S (txt who) c)])/\w'.ownsRow w2.heap.size 105 2 u (haA d S (txt who) c).l.length (pfV (haA d S (txt who) c).l)/\H1 T w0 (fun j=>(K j \/ (w.heap.size<=j/\j<w2.heap.size)) \/ u.ownBlock=some j) w' H (haD d S (txt who) c) S/\But (fun j=>¬ (K j \/ (w.heap.size<=j/\j<w2.heap.size))) w2 w':=fun w2 hb=>(h.step V hb).ask V ⟨who.toArray⟩ c dp hk hwm
 have e:ln3 d S who v ws=(.ok (Bur.txtA (haA d S (txt who) c).ad),haD d S (txt who) c,S):=by
  unfold ln3;rw[hc]
  show ((byF (haF d S (txt who) c) ()).bind _,_,_)=_
  rw[show byF (haF d S (txt who) c) ()=.ok () from if_pos hf]
  show (anT c.what (haA d S (txt who) c),_,_)=_
  rw[hr]
 rw[e]
 have L:∀ {w2 w3 w4:World} {u:Value} {z:Ending},z=enR ((.ok (Bur.txtA (haA d S (txt who) c).ad):Rw (List UInt8)).map strV)->Below w.heap.size w w2->H1 T w0 (fun j=>(K j \/ (w.heap.size<=j/\j<w2.heap.size)) \/ u.ownBlock=some j) w3 H (haD d S (txt who) c) S->But (fun j=>¬ (K j \/ (w.heap.size<=j/\j<w2.heap.size))) w2 w3->Below w3.heap.size w3 w4->Lo T w0 K H (.ok (Bur.txtA (haA d S (txt who) c).ad),haD d S (txt who) c,S) w z w4:=
  fun ht b2 h3 b3 b4=>Lo.of V (r:=.ok (Bur.txtA (haA d S (txt who) c).ad)) ht h b2 (fun j hj=>.inl hj) b3 (fun j hj=>.inl (.inl hj)) h3 b4
 have LH:Hid _:=@L
 have wR:∀ {w3:World},Below w0.heap.size w0 w3->Rv w3:=fun hb=>R0.step hb
 have R3:Hid _:=@wR
 simp only [hf,ev_0] at KA
 have KP:=fun W hW=>print_ok (haA d S (txt who) c).ad W hq hW
 clear hq
 clear L e hf hr wR
 generalize haA d S (txt who) c=a at *
 obtain⟨⟨a1,a2⟩,a3,a4,a5⟩:=a
 obtain⟨what,nm,⟨p1,p2⟩,len,ad,ow⟩:=c
 go_enter Tryz.func26,Tryz.ntmps26
 go_wp2_with (first
  | (go_at_call 50;refine KC.mono ?_;clear KC;rintro e w1 ⟨rfl,hb1⟩;have hb2:=below_al hb1 (.cells (clA ⟨what,nm,(p1,p2),len,ad,ow⟩) 107);have s1:=hb1.size;have x0:(w1.alloc (.cells (clA ⟨what,nm,(p1,p2),len,ad,ow⟩) 107)).cell? ⟨w1.heap.size,0,none⟩=some (.int .i64 what):=(by simp))
  | (go_at_call 52;refine (KA _ hb2).mono ?_;clear KA;rintro e w3 ⟨u,rfl,row,h3,b3⟩;obtain⟨q,cp,rfl⟩:=rowForm row;have y0:=(b3.cell (p:=⟨w1.heap.size,0,none⟩) (by simp) (by intro g;exact g (.inr ⟨s1,by simp⟩))).trans x0)
  | (go_at_call 51;refine (mustA_ok _ _ _ _ _ _ _ _).mono ?_;rintro e w4 ⟨rfl,hb4⟩;have z0:=cell_lat hb4 y0;have lt4:=World.block_lt_of_cell? _ _ z0;have hb5:=below_al hb4 (.cells #[.int .i64 a1,.int .i64 a2,.int .i64 a3,.string a4,.slice q a5.length cp] 111);have R5:=(R3.out h3.bl).step hb5)
  | (go_at_call 54;refine (KP _ R5.pw).mono ?_;clear KP;rintro e w6 ⟨rfl,hb6⟩)
  | (go_at_call 37;refine (mustS_ok _ _).mono ?_;rintro e w7 ⟨rfl,hw7⟩;have:=hw7.symm;subst this))
 go_ret
 exact LH.out rfl hb2 h3 b3 (below_via hb5 hb6)
theorem askAn (V:DFace T) {k:Nat} (R0:Rv w0) (h:H1 T w0 K w H d S) (dp:Dp k d) (hk:k<=800) (who v:List UInt8) (ws:List (List UInt8)) (b cap:Nat) (hW:Wd w b 2 ws) (hw:who.length<=4294967280) (c:Cl) (hc:clW v ws=.ok c) (hf:haF d S (txt who) c=0) (h6:(c.what==6)=false) (h7:(c.what==7)=true) (hq:Bur.isA (haA d S (txt who) c).ad=false) (hr:anT c.what (haA d S (txt who) c)=.error 1) :
  Calls Tryz.prog 26 #[.pointer (some ⟨H,0,none⟩),.string ⟨who.toArray⟩,.string ⟨v.toArray⟩,.slice (some ⟨b,2,none⟩) ws.length cap] w fun e w'=>Lo T w0 K H (ln3 d S who v ws) w e w':=by
 have R:=R0.step h.bl
 have KC:=call_ok hc w b cap R hW
 have hwm:(⟨who.toArray⟩:ByteArray).size<=maxLen:=by unfold maxLen;simp[ByteArray.size];omega
 have KA:∀ w2,Below w.heap.size w w2->Calls Tryz.prog 52 #[.pointer (some ⟨H,0,none⟩),.string ⟨who.toArray⟩,clV c] w2 fun e w'=>∃ u,e=.returned (.tuple #[anV (haA d S (txt who) c) u,ev (haF d S (txt who) c)])/\w'.ownsRow w2.heap.size 105 2 u (haA d S (txt who) c).l.length (pfV (haA d S (txt who) c).l)/\H1 T w0 (fun j=>(K j \/ (w.heap.size<=j/\j<w2.heap.size)) \/ u.ownBlock=some j) w' H (haD d S (txt who) c) S/\But (fun j=>¬ (K j \/ (w.heap.size<=j/\j<w2.heap.size))) w2 w':=fun w2 hb=>(h.step V hb).ask V ⟨who.toArray⟩ c dp hk hwm
 have e:ln3 d S who v ws=(.error 1,haD d S (txt who) c,S):=by
  unfold ln3;rw[hc]
  show ((byF (haF d S (txt who) c) ()).bind _,_,_)=_
  rw[show byF (haF d S (txt who) c) ()=.ok () from if_pos hf]
  show (anT c.what (haA d S (txt who) c),_,_)=_
  rw[hr]
 rw[e]
 have L:∀ {w2 w3 w4:World} {u:Value} {z:Ending},z=enR ((.error 1:Rw (List UInt8)).map strV)->Below w.heap.size w w2->H1 T w0 (fun j=>(K j \/ (w.heap.size<=j/\j<w2.heap.size)) \/ u.ownBlock=some j) w3 H (haD d S (txt who) c) S->But (fun j=>¬ (K j \/ (w.heap.size<=j/\j<w2.heap.size))) w2 w3->Below w3.heap.size w3 w4->Lo T w0 K H (.error 1,haD d S (txt who) c,S) w z w4:=
  fun ht b2 h3 b3 b4=>Lo.of V (r:=.error 1) ht h b2 (fun j hj=>.inl hj) b3 (fun j hj=>.inl (.inl hj)) h3 b4
 have LH:Hid _:=@L
 have wR:∀ {w3:World},Below w0.heap.size w0 w3->Rv w3:=fun hb=>R0.step hb
 have R3:Hid _:=@wR
 simp only [hf,ev_0] at KA
 have KP:=fun W=>print_no (haA d S (txt who) c).ad W hq
 have KM:=fun W=>mustS_no ⟨#[]⟩ 1 (by decide) W
 generalize hth:thC 1=th at KM
 have HTH:Hid _:=hth
 clear hq hth
 clear L e hf hr wR
 generalize haA d S (txt who) c=a at *
 obtain⟨⟨a1,a2⟩,a3,a4,a5⟩:=a
 obtain⟨what,nm,⟨p1,p2⟩,len,ad,ow⟩:=c
 go_enter Tryz.func26,Tryz.ntmps26
 go_wp2_with (first
  | (go_at_call 50;refine KC.mono ?_;clear KC;rintro e w1 ⟨rfl,hb1⟩;have hb2:=below_al hb1 (.cells (clA ⟨what,nm,(p1,p2),len,ad,ow⟩) 107);have s1:=hb1.size;have x0:(w1.alloc (.cells (clA ⟨what,nm,(p1,p2),len,ad,ow⟩) 107)).cell? ⟨w1.heap.size,0,none⟩=some (.int .i64 what):=(by simp))
  | (go_at_call 52;refine (KA _ hb2).mono ?_;clear KA;rintro e w3 ⟨u,rfl,row,h3,b3⟩;obtain⟨q,cp,rfl⟩:=rowForm row;have y0:=(b3.cell (p:=⟨w1.heap.size,0,none⟩) (by simp) (by intro g;exact g (.inr ⟨s1,by simp⟩))).trans x0)
  | (go_at_call 51;refine (mustA_ok _ _ _ _ _ _ _ _).mono ?_;rintro e w4 ⟨rfl,hb4⟩;have z0:=cell_lat hb4 y0;have lt4:=World.block_lt_of_cell? _ _ z0;have hb5:=below_al hb4 (.cells #[.int .i64 a1,.int .i64 a2,.int .i64 a3,.string a4,.slice q a5.length cp] 111);have R5:=(R3.out h3.bl).step hb5)
  | (go_at_call 54;refine (KP _).mono ?_;clear KP;rintro e w6 ⟨rfl,hb6⟩)
  | (go_at_call 37;refine (KM _).mono ?_;rintro e w7 ⟨rfl,hw7⟩;have:=hw7.symm;subst this))
 exact⟨rfl,LH.out (by rw[<- HTH.out];rfl) hb2 h3 b3 (below_via hb5 hb6)⟩
end
end Go.Proofs.YtcjdoeclblhaeaaGreatDoor.Rn
namespace Go.Proofs.YtcjdoeclblhaeaaGreatDoor.Rn
open Go.RowKit Go.Maps Pa Vs
section
variable {T:Td} {w0 w w':World} {K:Nat->Prop} {H:Nat} {d:Dk} {S:Ses}
theorem askL (V:DFace T) {k:Nat} (R0:Rv w0) (h:H1 T w0 K w H d S) (dp:Dp k d) (hk:k<=800) (who v:List UInt8) (ws:List (List UInt8)) (b cap:Nat) (hW:Wd w b 2 ws) (hw:who.length<=4294967280) (c:Cl) (hc:clW v ws=.ok c) (hf:haF d S (txt who) c=0) (h6:(c.what==6)=false) (h7:(c.what==7)=false) (h8:(c.what==8)=true) (hl:(haA d S (txt who) c).l.length<=1000) (ts:List (List UInt8)) (ht:ppL (haA d S (txt who) c).l=.ok ts) (hj:(Lib.join ts [32]).length<=140737488355328) (hn:ts.length<=1000000) (hr:anT c.what (haA d S (txt who) c)=.ok (lsT ts)) :
  Calls Tryz.prog 26 #[.pointer (some ⟨H,0,none⟩),.string ⟨who.toArray⟩,.string ⟨v.toArray⟩,.slice (some ⟨b,2,none⟩) ws.length cap] w fun e w'=>Lo T w0 K H (ln3 d S who v ws) w e w':=by
 have R:=R0.step h.bl
 have KC:=call_ok hc w b cap R hW
 have hwm:(⟨who.toArray⟩:ByteArray).size<=maxLen:=by unfold maxLen;simp[ByteArray.size];omega
 have KA:∀ w2,Below w.heap.size w w2->Calls Tryz.prog 52 #[.pointer (some ⟨H,0,none⟩),.string ⟨who.toArray⟩,clV c] w2 fun e w'=>∃ u,e=.returned (.tuple #[anV (haA d S (txt who) c) u,ev (haF d S (txt who) c)])/\w'.ownsRow w2.heap.size 105 2 u (haA d S (txt who) c).l.length (pfV (haA d S (txt who) c).l)/\H1 T w0 (fun j=>(K j \/ (w.heap.size<=j/\j<w2.heap.size)) \/ u.ownBlock=some j) w' H (haD d S (txt who) c) S/\But (fun j=>¬ (K j \/ (w.heap.size<=j/\j<w2.heap.size))) w2 w':=fun w2 hb=>(h.step V hb).ask V ⟨who.toArray⟩ c dp hk hwm
 have e:ln3 d S who v ws=(.ok (lsT ts),haD d S (txt who) c,S):=by
  unfold ln3;rw[hc]
  show ((byF (haF d S (txt who) c) ()).bind _,_,_)=_
  rw[show byF (haF d S (txt who) c) ()=.ok () from if_pos hf]
  show (anT c.what (haA d S (txt who) c),_,_)=_
  rw[hr]
 rw[e]
 have L:∀ {w2 w3 w4:World} {u:Value} {z:Ending},z=enR ((.ok (lsT ts):Rw (List UInt8)).map strV)->Below w.heap.size w w2->H1 T w0 (fun j=>(K j \/ (w.heap.size<=j/\j<w2.heap.size)) \/ u.ownBlock=some j) w3 H (haD d S (txt who) c) S->But (fun j=>¬ (K j \/ (w.heap.size<=j/\j<w2.heap.size))) w2 w3->Below w3.heap.size w3 w4->Lo T w0 K H (.ok (lsT ts),haD d S (txt who) c,S) w z w4:=
  fun ht b2 h3 b3 b4=>Lo.of V (r:=.ok (lsT ts)) ht h b2 (fun j hj=>.inl hj) b3 (fun j hj=>.inl (.inl hj)) h3 b4
 have LH:Hid _:=@L
 have wR:∀ {w3:World},Below w0.heap.size w0 w3->Rv w3:=fun hb=>R0.step hb
 have R3:Hid _:=@wR
 simp only [hf,ev_0] at KA
 have KP:=fun p cp W RW hp=>prefixes_ok ht p cp W RW hp hl
 have KL:=fun v B W row=>listed_ ts v B W row hj hn
 clear ht hl hj hn
 clear L e hf hr wR
 generalize haA d S (txt who) c=a at *
 obtain⟨⟨a1,a2⟩,a3,a4,a5⟩:=a
 obtain⟨what,nm,⟨p1,p2⟩,len,ad,ow⟩:=c
 go_enter Tryz.func26,Tryz.ntmps26
 go_wp2_with (first
  | (go_at_call 50;refine KC.mono ?_;clear KC;rintro e w1 ⟨rfl,hb1⟩;have hb2:=below_al hb1 (.cells (clA ⟨what,nm,(p1,p2),len,ad,ow⟩) 107);have s1:=hb1.size;have x0:(w1.alloc (.cells (clA ⟨what,nm,(p1,p2),len,ad,ow⟩) 107)).cell? ⟨w1.heap.size,0,none⟩=some (.int .i64 what):=(by simp))
  | (go_at_call 52;refine (KA _ hb2).mono ?_;clear KA;rintro e w3 ⟨u,rfl,row,h3,b3⟩;obtain⟨q,cp,rfl⟩:=rowForm row;have y0:=(b3.cell (p:=⟨w1.heap.size,0,none⟩) (by simp) (by intro g;exact g (.inr ⟨s1,by simp⟩))).trans x0)
  | (go_at_call 51;refine (mustA_ok _ _ _ _ _ _ _ _).mono ?_;rintro e w4 ⟨rfl,hb4⟩;have z0:=cell_lat hb4 y0;have lt4:=World.block_lt_of_cell? _ _ z0;have hb5:=below_al hb4 (.cells #[.int .i64 a1,.int .i64 a2,.int .i64 a3,.string a4,.slice q a5.length cp] 111);have R5:=(R3.out h3.bl).step hb5)
  | (go_at_call 55;refine (KP _ _ _ R5 ((pfA_own row).2.step hb5)).mono ?_;clear KP;rintro e w6 ⟨v6,rfl,row6,hb6⟩)
  | (go_at_call 41;refine (KL _ _ _ row6).mono ?_;clear KL;rintro e w7 ⟨rfl,hb7⟩))
 go_ret
 exact LH.out rfl hb2 h3 b3 (below_via (below_via hb5 hb6) hb7)
theorem askLn (V:DFace T) {k:Nat} (R0:Rv w0) (h:H1 T w0 K w H d S) (dp:Dp k d) (hk:k<=800) (who v:List UInt8) (ws:List (List UInt8)) (b cap:Nat) (hW:Wd w b 2 ws) (hw:who.length<=4294967280) (c:Cl) (hc:clW v ws=.ok c) (hf:haF d S (txt who) c=0) (h6:(c.what==6)=false) (h7:(c.what==7)=false) (h8:(c.what==8)=true) (hl:(haA d S (txt who) c).l.length<=1000) (f:Int) (ht:ppL (haA d S (txt who) c).l=.error f) (hr:anT c.what (haA d S (txt who) c)=.error f) :
  Calls Tryz.prog 26 #[.pointer (some ⟨H,0,none⟩),.string ⟨who.toArray⟩,.string ⟨v.toArray⟩,.slice (some ⟨b,2,none⟩) ws.length cap] w fun e w'=>Lo T w0 K H (ln3 d S who v ws) w e w':=by
 have R:=R0.step h.bl
 have KC:=call_ok hc w b cap R hW
 have hwm:(⟨who.toArray⟩:ByteArray).size<=maxLen:=by unfold maxLen;simp[ByteArray.size];omega
 have KA:∀ w2,Below w.heap.size w w2->Calls Tryz.prog 52 #[.pointer (some ⟨H,0,none⟩),.string ⟨who.toArray⟩,clV c] w2 fun e w'=>∃ u,e=.returned (.tuple #[anV (haA d S (txt who) c) u,ev (haF d S (txt who) c)])/\w'.ownsRow w2.heap.size 105 2 u (haA d S (txt who) c).l.length (pfV (haA d S (txt who) c).l)/\H1 T w0 (fun j=>(K j \/ (w.heap.size<=j/\j<w2.heap.size)) \/ u.ownBlock=some j) w' H (haD d S (txt who) c) S/\But (fun j=>¬ (K j \/ (w.heap.size<=j/\j<w2.heap.size))) w2 w':=fun w2 hb=>(h.step V hb).ask V ⟨who.toArray⟩ c dp hk hwm
 have e:ln3 d S who v ws=(.error f,haD d S (txt who) c,S):=by
  unfold ln3;rw[hc]
  show ((byF (haF d S (txt who) c) ()).bind _,_,_)=_
  rw[show byF (haF d S (txt who) c) ()=.ok () from if_pos hf]
  show (anT c.what (haA d S (txt who) c),_,_)=_
  rw[hr]
 rw[e]
 have L:∀ {w2 w3 w4:World} {u:Value} {z:Ending},z=enR ((.error f:Rw (List UInt8)).map strV)->Below w.heap.size w w2->H1 T w0 (fun j=>(K j \/ (w.heap.size<=j/\j<w2.heap.size)) \/ u.ownBlock=some j) w3 H (haD d S (txt who) c) S->But (fun j=>¬ (K j \/ (w.heap.size<=j/\j<w2.heap.size))) w2 w3->Below w3.heap.size w3 w4->Lo T w0 K H (.error f,haD d S (txt who) c,S) w z w4:=
  fun ht b2 h3 b3 b4=>Lo.of V (r:=.error f) ht h b2 (fun j hj=>.inl hj) b3 (fun j hj=>.inl (.inl hj)) h3 b4
 have LH:Hid _:=@L
 have wR:∀ {w3:World},Below w0.heap.size w0 w3->Rv w3:=fun hb=>R0.step hb
 have R3:Hid _:=@wR
 simp only [hf,ev_0] at KA
 have KP:=fun p cp W RW hp=>prefixes_no ht p cp W RW hp hl
 generalize hth:thC f=th at KP
 have HTH:Hid _:=hth
 clear ht hl hth
 clear L e hf hr wR
 generalize haA d S (txt who) c=a at *
 obtain⟨⟨a1,a2⟩,a3,a4,a5⟩:=a
 obtain⟨what,nm,⟨p1,p2⟩,len,ad,ow⟩:=c
 go_enter Tryz.func26,Tryz.ntmps26
 go_wp2_with (first
  | (go_at_call 50;refine KC.mono ?_;clear KC;rintro e w1 ⟨rfl,hb1⟩;have hb2:=below_al hb1 (.cells (clA ⟨what,nm,(p1,p2),len,ad,ow⟩) 107);have s1:=hb1.size;have x0:(w1.alloc (.cells (clA ⟨what,nm,(p1,p2),len,ad,ow⟩) 107)).cell? ⟨w1.heap.size,0,none⟩=some (.int .i64 what):=(by simp))
  | (go_at_call 52;refine (KA _ hb2).mono ?_;clear KA;rintro e w3 ⟨u,rfl,row,h3,b3⟩;obtain⟨q,cp,rfl⟩:=rowForm row;have y0:=(b3.cell (p:=⟨w1.heap.size,0,none⟩) (by simp) (by intro g;exact g (.inr ⟨s1,by simp⟩))).trans x0)
  | (go_at_call 51;refine (mustA_ok _ _ _ _ _ _ _ _).mono ?_;rintro e w4 ⟨rfl,hb4⟩;have z0:=cell_lat hb4 y0;have lt4:=World.block_lt_of_cell? _ _ z0;have hb5:=below_al hb4 (.cells #[.int .i64 a1,.int .i64 a2,.int .i64 a3,.string a4,.slice q a5.length cp] 111);have R5:=(R3.out h3.bl).step hb5)
  | (go_at_call 55;refine (KP _ _ _ R5 ((pfA_own row).2.step hb5)).mono ?_;clear KP;rintro e w6 ⟨rfl,hb6⟩))
 exact⟨rfl,LH.out (by rw[<- HTH.out];rfl) hb2 h3 b3 (below_via hb5 hb6)⟩
end
end Go.Proofs.YtcjdoeclblhaeaaGreatDoor.Rn
