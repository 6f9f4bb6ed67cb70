/- -/
import Derived.Test.YtcjdoeclblhaeaaGreatDoorRRnE
import Derived.Test.YtcjdoeclblhaeaaGreatDoorRPlV
import Derived.Lib.Join
import Derived.Lib.ItoaLen
import Derived.Test.YtcjdoeclblhaeaaGreatDoorRRnCat
import Derived.Lib.SplitLaws
import Derived.Test.YtcjdoeclblhaeaaGreatDoorRSpWalkE
import Derived.Deep.DeepCutAuto
import Derived.WalkLawsBesides
set_option maxHeartbeats 8000000
set_option maxRecDepth 100000
namespace Go.Proofs.YtcjdoeclblhaeaaGreatDoor.Rn
open Go Go.RowKit Pa Vs
theorem join_le (M:Nat):∀ (ts:List (List UInt8)),(∀ t∈ts,t.length<=M)->(Lib.join ts [32]).length<=(M+1)*ts.length
 | [],_=>Nat.zero_le _
 | x :: r,h=>by
  rw[Lib.join_cons,List.length_append,Lib.joinTail_length]
  have h1:=h x (by simp)
  have h2:Lib.lens r<=M*r.length:=by
   have:∀ (r:List (List UInt8)),(∀ t∈r,t.length<=M)->Lib.lens r<=M*r.length:=by
    intro r
    induction r with
    | nil=>intro _;simp[Lib.lens]
    | cons y s ih=>
     intro hr
     have:=ih (fun t ht=>hr t (by simp[ht]))
     have:=hr y (by simp)
     simp only [Lib.lens,List.map_cons,List.sum_cons,List.length_cons,Nat.mul_succ] at *
     omega
   exact this r (fun t ht=>h t (by simp[ht]))
  simp only [List.length_cons,List.length_nil,Nat.mul_succ,Nat.add_mul]
  omega
theorem lsT_le (M:Nat) {ts:List (List UInt8)} (h:∀ t∈ts,t.length<=M):(lsT ts).length<=(M+1)*ts.length+1:=by
 unfold lsT
 split
 ·simp
 ·exact Nat.le_succ_of_le (join_le M ts h)
theorem wtL_ge:∀ {ls:List (List Chg)},(∀ l∈ls,0<l.length)->ls.length<=wtL ls
 | [],_=>Nat.zero_le _
 | x :: r,h=>by
  have:=wtL_ge (ls:=r) (fun l hl=>h l (by simp[hl]))
  have:=h x (by simp)
  simp only [wtL,List.map_cons,List.sum_cons,List.length_cons] at *
  omega
theorem ls_le {k:Nat} {d:Dk} (h:Dp k d):d.lg.ls.length<=k:=by
 have h1:=wtL_ge h.ok.each
 have h2:=h.wl
 unfold wt at h2
 omega
theorem sfN_le {k:Nat} {d:Dk} (h:Dp k d):sfN d<=k:=by
 refine Nat.le_trans ?_ (ls_le h)
 unfold sfN
 obtain⟨j,hj,e,_⟩:=fitL_take d.lg.safe d.lg.ls
 rw[e,List.length_take]
 omega
theorem cmN_le {k:Nat} {d:Dk} (h:Dp k d) (i:Int):0<=cmN d i/\cmN d i<=k+1:=by
 have h1:=ls_le h
 have h2:=h.ok.last
 unfold cmN
 cases e:opI d i with
 | none=>simp;omega
 | some o=>
  have ho:=h.ok.op o (opI_some e).1
  have:=ho.s0
  have:=ho.s1
  simp only
  split
  ·omega
  ·split
   ·omega
   ·split <;> omega
theorem hcN_le {k:Nat} {d:Dk} {S:Ses} (h:Dp k d) (who:ByteArray):0<=hcN d S who/\hcN d S who<=k+1:=by
 unfold hcN
 cases sId S who with
 | none=>simp;omega
 | some i=>exact cmN_le h i
theorem haA_few {k:Nat} {d:Dk} {S:Ses} (h:Dp k d) (hk:k<=800) (who:ByteArray) (c:Cl):Few (haA d S who c):=by
 unfold haA
 cases sId S who with
 | none=>exact few0
 | some i=>exact run_fw (doP c) 5 k d i (fw_do c) h (by omega)
theorem net_tiny {d:Dk} (h:OkD d):∀ x∈ntL (allP d),x.size<=24:=fun x hx=>by
 unfold ntL at hx
 obtain⟨p,hp,e⟩:=List.mem_filterMap.1 hx
 rw[allP_at] at hp
 obtain⟨y,hy,_,_⟩:=vget_some.1 (((allAt_is h.tb d.last).2 p).1 hp)
 obtain⟨g1,g2,_⟩:=see_some hy
 have h24:=(h.tb.each y g1).1.2.1
 rw[g2] at h24
 unfold ntN at e
 split at e
 ·injection e with e
  rw[<- e]
  have e2:p.1.data.toList.length=p.1.size:=Array.length_toList
  show (List.drop 2 p.1.data.toList).toArray.size<=24
  simp
  omega
 ·cases e
theorem nets_le {k:Nat} {d:Dk} (h:Dp k d) (hk:k<=800):(Lib.join ((ntL (allP d)).map fun n=>n.data.toList) [32]).length<=25000/\(lsT ((ntL (allP d)).map fun n=>n.data.toList)).length<=25001/\(ntL (allP d)).length<=1000:=by
 have h1:=Nat.le_trans (ntL_len (allP d)) (all_few h (by omega))
 have hm:∀ t∈(ntL (allP d)).map fun n=>n.data.toList,t.length<=24:=by
  intro t ht
  obtain⟨n,hn,rfl⟩:=List.mem_map.1 ht
  have e:n.data.toList.length=n.size:=Array.length_toList
  have:=net_tiny h.ok n hn
  omega
 have j1:=join_le 24 _ hm
 have j2:=lsT_le 24 hm
 rw[List.length_map] at j1 j2
 exact⟨by omega,by omega,h1⟩
theorem txtP_le {a l:Int} (h:Bur.fault a l=0):(Bur.txtP a l).length<=19:=by
 obtain⟨h0,h1,a0,a1,hz⟩:=Bur.fault_ok h
 have lt:=Bur.txt_len (a:=a / 16777216) (b:=a / 65536 % 256) (c:=a / 256 % 256) (d:=a % 256) (by omega) (by omega) (by omega) (by omega) (by omega) (by omega) (by omega) (by omega)
 have ll:=Bur.dec_len h0 (by omega)
 simp only [Bur.txtP,Bur.txtA,List.length_append,List.length_cons]
 omega
theorem txtA_le {a:Int} (h:Bur.isA a=true):(Bur.txtA a).length<=15:=by
 obtain⟨a0,a1⟩:=Bur.isA_true h
 exact Bur.txt_len (a:=a / 16777216) (b:=a / 65536 % 256) (c:=a / 256 % 256) (d:=a % 256) (by omega) (by omega) (by omega) (by omega) (by omega) (by omega) (by omega) (by omega)
theorem ppL_le:∀ {l:List Bur.Sp} {ts:List (List UInt8)},ppL l=.ok ts->ts.length=l.length /\ ∀ t∈ts,t.length<=19
 | [],ts,h=>by
  cases h
  exact⟨rfl,fun t ht=>by cases ht⟩
 | p :: r,ts,h=>by
  have h':(ppW p).bind (fun t=>(ppL r).map fun l=>t :: l)=.ok ts:=h
  unfold ppW byF at h'
  by_cases q:Bur.fault p.1 p.2=0
  ·rw[if_pos q] at h'
   cases e:ppL r with
   | error f=>rw[e] at h';cases h'
   | ok l=>
    rw[e] at h'
    cases h'
    obtain⟨g1,g2⟩:=ppL_le e
    refine⟨by simp[g1],fun t ht=>?_⟩
    rcases List.mem_cons.1 ht with rfl|ht
    ·exact txtP_le q
    ·exact g2 t ht
  ·rw[if_neg q] at h';cases h'
theorem list_le {l:List Bur.Sp} {ts:List (List UInt8)} (h:ppL l=.ok ts) (hl:l.length<=1000):(Lib.join ts [32]).length<=20000/\(lsT ts).length<=20001/\ts.length<=1000:=by
 obtain⟨g1,g2⟩:=ppL_le h
 have j1:=join_le 19 _ g2
 have j2:=lsT_le 19 g2
 exact⟨by omega,by omega,by omega⟩
def Sml:Rw (List UInt8)->Prop
 | .ok t=>t.length<=30000
 | .error _=>True
theorem sml_byF (f:Int) {t:List UInt8} (h:t.length<=30000):Sml (byF f t):=by
 unfold byF
 split
 ·exact h
 ·trivial
theorem told_le {r:Rw (List UInt8)} (h:Sml r):(told r).length<=30000:=by
 cases r with
 | ok t=>exact h
 | error f=>
  show (if f=0 then badT else errT f).length<=30000
  split
  ·decide
  ·unfold errT
   repeat' split
   all_goals decide
theorem anT_sml {k:Int} {a:An} (h:Few a):Sml (anT k a):=by
 unfold anT
 split
 ·unfold ppW byF
  split
  ·rename_i q
   have:=txtP_le q
   show (Bur.txtP a.p.1 a.p.2).length<=30000
   omega
  ·trivial
 ·split
  ·unfold byF
   cases q:Bur.isA a.ad with
   | true=>
    have:=txtA_le q
    rw[if_pos rfl,if_pos rfl]
    show (Bur.txtA a.ad).length<=30000
    omega
   | false=>rw[if_neg (by simp),if_neg (by decide)];trivial
  ·split
   ·cases e:ppL a.l with
    | error f=>trivial
    | ok ts=>
     have:=(list_le e h.1).2.1
     show (lsT ts).length<=30000
     omega
   ·split
    ·have e:a.ow.data.toList.length=a.ow.size:=Array.length_toList
     have:=h.2
     show a.ow.data.toList.length<=30000
     omega
    ·show okT.length<=30000
     decide
theorem itoa_le {n:Int} (h0:0<=n) (h1:n<=1000000):(Lib.itoa n).length<=30000:=Nat.le_trans (Lib.itoa_length_le n (by omega) (by omega)) (by decide)
theorem ln_sml {k:Nat} {d:Dk} {S:Ses} (h:Dp k d) (hk:k<=800) (l:List UInt8):(ln (d,S) l).1.length<=30000:=by
 refine told_le ?_
 show Sml (lnE d S (wds l)).1
 match wds l with
 | []=>trivial
 | [v]=>
  show Sml (ln1 d v)
  unfold ln1
  split
  ·exact sml_byF _ (by decide)
  ·split
   ·have:=sfN_le h
    exact itoa_le (by omega) (by omega)
   ·split
    ·have:=(nets_le h hk).2.1
     show (lsT _).length<=30000
     omega
    ·trivial
 | [v,x]=>
  show Sml (ln2 d S v x).1
  unfold ln2
  split
  ·exact sml_byF _ (by decide)
  split
  ·exact sml_byF _ (by decide)
  split
  ·have:=hcN_le h (txt x) (S:=S)
   exact sml_byF _ (itoa_le (by omega) (by omega))
  split
  ·cases nmW x with
   | ok n=>show okT.length<=30000;decide
   | error f=>trivial
  split
  ·cases nmW x with
   | ok n=>show okT.length<=30000;decide
   | error f=>trivial
  ·trivial
 | who :: v :: x :: ws=>
  show Sml (ln3 d S who v (x :: ws)).1
  unfold ln3
  cases clW v (x :: ws) with
  | error f=>trivial
  | ok c=>
   show Sml ((byF _ ()).bind _)
   unfold byF
   split
   ·exact anT_sml (haA_few h hk _ _)
   ·trivial
end Go.Proofs.YtcjdoeclblhaeaaGreatDoor.Rn
namespace Go.Proofs.YtcjdoeclblhaeaaGreatDoor.Rn
open Go.RowKit Go.Maps Pa Vs
section
variable {T:Td} {w0 w w':World} {K:Nat->Prop} {H:Nat} {d:Dk} {S:Ses}
theorem enR_by {α : Type} (f:Int) (t : α) (g : α -> Value):enR ((byF f t).map g)=if f=0 then .returned (g t) else .panicked (thC f):=by
 unfold byF
 split <;> rfl
theorem H1.nets (V:DFace T) {k:Nat} (h:H1 T w0 K w H d S) (dp:Dp k d) (_hk:k<=800) :
  Calls Tryz.prog 42 #[.pointer (some ⟨H,0,none⟩)] w fun e w'=>∃ v,e=.returned v/\w'.ownsRow w.heap.size 9 1 v (ntL (allP d)).length (stV (ntL (allP d)))/\Below w.heap.size w w':=by
 obtain⟨G,h1,h2⟩:=h.ex
 exact hallNets V h1 dp.ok (dp.sm (by omega)) (all_few dp (by omega))
theorem stV_txV (l:List ByteArray):stV l=txV (l.map fun n=>n.data.toList):=by
 unfold stV txV
 rw[List.map_map]
 rfl
theorem aloneF (V:DFace T) {k:Nat} (_R0:Rv w0) (h:H1 T w0 K w H d S) (dp:Dp k d) (hk:k<=800) (hf:flF d=0) :
  Calls Tryz.prog 24 #[.pointer (some ⟨H,0,none⟩),.string ⟨#[102,108,117,115,104]⟩] w fun e w'=>e=.returned (.string ⟨#[111,107]⟩)/\H1 T w0 K w' H (flD d) S/\But (fun j=>¬ K j) w w':=by
 have KF:=h.flush V dp hk
 rw[hf,ev_0] at KF
 clear hf
 go_enter Tryz.func24,Tryz.ntmps24
 go_wp2_with (first
  | (go_at_call 38;refine KF.mono ?_;clear KF;rintro e w1 ⟨rfl,h1,b1⟩)
  | (go_at_call 37;refine (mustS_ok _ _).mono ?_;rintro e w2 ⟨rfl,hw2⟩;have:=hw2.symm;subst this))
 go_ret
 exact⟨rfl,h1,b1⟩
theorem aloneFn (V:DFace T) {k:Nat} (_R0:Rv w0) (h:H1 T w0 K w H d S) (dp:Dp k d) (hk:k<=800) (hf:flF d≠0) :
  Calls Tryz.prog 24 #[.pointer (some ⟨H,0,none⟩),.string ⟨#[102,108,117,115,104]⟩] w fun e w'=>e=.panicked (thC (flF d))/\H1 T w0 K w' H (flD d) S/\But (fun j=>¬ K j) w w':=by
 have KF:=h.flush V dp hk
 rw[ev_ne hf] at KF
 have KM:=fun s W=>mustS_no s (flF d) hf W
 generalize thC (flF d)=th at *
 clear hf
 generalize flF d=f at *
 go_enter Tryz.func24,Tryz.ntmps24
 go_wp2_with (first
  | (go_at_call 38;refine KF.mono ?_;clear KF;rintro e w1 ⟨rfl,h1,b1⟩)
  | (go_at_call 37;refine (KM _ _).mono ?_;rintro e w2 ⟨rfl,hw2⟩;have:=hw2.symm;subst this))
 exact⟨rfl,rfl,h1,b1⟩
theorem aloneS (V:DFace T) {k:Nat} (R0:Rv w0) (h:H1 T w0 K w H d S) (dp:Dp k d) (hk:k<=800)  :
  Calls Tryz.prog 24 #[.pointer (some ⟨H,0,none⟩),.string ⟨#[115,97,102,101]⟩] w fun e w'=>e=.returned (.string ⟨(Lib.itoa (sfN d)).toArray⟩)/\Below w.heap.size w w':=by
 have KS:=h.safe V dp hk
 have hs:=sfN_le dp
 have R:=R0.step h.bl
 have KI:=fun W hW=>itoaAny (sfN d) W (by omega) (by omega) hW
 generalize Lib.itoa (sfN d)=z at *
 generalize sfN d=n at *
 go_enter Tryz.func24,Tryz.ntmps24
 go_wp2_with (first
  | (go_at_call 40;refine KS.mono ?_;clear KS;rintro e w1 ⟨rfl,b1⟩)
  | (go_at_call 39;refine (KI _ (R.step b1).pw).mono ?_;clear KI;rintro e w2 ⟨rfl,b2⟩))
 go_ret
 exact⟨rfl,below_via b1 b2⟩
theorem aloneN (V:DFace T) {k:Nat} (_R0:Rv w0) (h:H1 T w0 K w H d S) (dp:Dp k d) (hk:k<=800)  :
  Calls Tryz.prog 24 #[.pointer (some ⟨H,0,none⟩),.string ⟨#[110,101,116,115]⟩] w fun e w'=>e=.returned (.string ⟨(lsT ((ntL (allP d)).map fun n=>n.data.toList)).toArray⟩)/\Below w.heap.size w w':=by
 have KN:=H1.nets V h dp hk
 have hn:=nets_le dp hk
 have KL:=fun v B W row=>listed_ ((ntL (allP d)).map fun n=>n.data.toList) v B W row (by omega) (by rw[List.length_map];omega)
 rw[List.length_map,<- stV_txV] at KL
 clear hn
 generalize lsT ((ntL (allP d)).map fun n=>n.data.toList)=z at *
 go_enter Tryz.func24,Tryz.ntmps24
 go_wp2_with (first
  | (go_at_call 42;refine KN.mono ?_;clear KN;rintro e w1 ⟨v,rfl,row,b1⟩)
  | (go_at_call 41;refine (KL _ _ _ row).mono ?_;clear KL;rintro e w2 ⟨rfl,b2⟩))
 go_ret
 exact⟨rfl,below_via b1 b2⟩
theorem aloneNo (p:Value) (v:List UInt8) (w:World) (h1:(v == [102,108,117,115,104])=false) (h2:(v == [115,97,102,101])=false) (h3:(v == [110,101,116,115])=false) :
  Calls Tryz.prog 24 #[p,.string ⟨v.toArray⟩] w fun e w'=>e=.panicked (thC 0)/\w'=w:=by
 unfold thC
 rw[thr_0]
 go_enter Tryz.func24,Tryz.ntmps24
 go_wp2
 exact⟨rfl,rfl,rfl⟩
theorem alone_ (V:DFace T) {k:Nat} (R0:Rv w0) (h:H1 T w0 K w H d S) (dp:Dp k d) (hk:k<=800) (v:List UInt8) :
  Calls Tryz.prog 24 #[.pointer (some ⟨H,0,none⟩),.string ⟨v.toArray⟩] w fun e w'=>Lo T w0 K H (ln1 d v,ln1D d v,S) w e w':=by
 by_cases e1:v=[102,108,117,115,104]
 ·subst e1
  rw[show ln1 d [102,108,117,115,104]=byF (flF d) okT from rfl,show ln1D d [102,108,117,115,104]=flD d from rfl]
  by_cases hf:flF d=0
  ·refine (aloneF V R0 h dp hk hf).mono ?_
   rintro e w' ⟨rfl,g1,g2⟩
   refine⟨?_,g1,g2⟩
   rw[enR_by,if_pos hf]
   rfl
  ·refine (aloneFn V R0 h dp hk hf).mono ?_
   rintro e w' ⟨rfl,g1,g2⟩
   refine⟨?_,g1,g2⟩
   rw[enR_by,if_neg hf]
 have hD:ln1D d v=d:=if_neg e1
 rw[hD]
 by_cases e2:v=[115,97,102,101]
 ·subst e2
  rw[show ln1 d [115,97,102,101]=.ok (Lib.itoa (sfN d)) from rfl]
  refine (aloneS V R0 h dp hk).mono ?_
  rintro e w' ⟨rfl,g⟩
  exact⟨rfl,h.same V g,.below g⟩
 by_cases e3:v=[110,101,116,115]
 ·subst e3
  rw[show ln1 d [110,101,116,115]=.ok (lsT ((ntL (allP d)).map fun n=>n.data.toList)) from rfl]
  refine (aloneN V R0 h dp hk).mono ?_
  rintro e w' ⟨rfl,g⟩
  exact⟨rfl,h.same V g,.below g⟩
 rw[show ln1 d v=.error 0 from by unfold ln1;rw[if_neg e1,if_neg e2,if_neg e3]]
 refine (aloneNo (.pointer (some ⟨H,0,none⟩)) v w (beq_eq_false_iff_ne.2 e1) (beq_eq_false_iff_ne.2 e2) (beq_eq_false_iff_ne.2 e3)).mono ?_
 rintro e w' ⟨rfl,rfl⟩
 exact⟨rfl,h,But.refl _ _⟩
end
end Go.Proofs.YtcjdoeclblhaeaaGreatDoor.Rn
namespace Go.Proofs.YtcjdoeclblhaeaaGreatDoor.Rn
open Go.RowKit Go.Maps Pa Vs
section
variable {T:Td} {w0 w w':World} {K:Nat->Prop} {H:Nat} {d:Dk} {S:Ses}
theorem withO (V:DFace T) {k:Nat} (_R0:Rv w0) (h:H1 T w0 K w H d S) (dp:Dp k d) (hk:k<=800) (x:List UInt8) (hx:x.length<=4294967280) (hS:S.length<=1000) (hf:hoF d S (txt x)=0) :
  Calls Tryz.prog 25 #[.pointer (some ⟨H,0,none⟩),.string ⟨#[111,112,101,110]⟩,.string ⟨x.toArray⟩] w fun e w'=>e=.returned (.string ⟨#[111,107]⟩)/\H1 T w0 K w' H (hoD d S (txt x)) (hoS d S (txt x))/\But (fun j=>¬ K j) w w':=by
 have hxm:(⟨x.toArray⟩:ByteArray).size<=maxLen:=by unfold maxLen;simp[ByteArray.size];omega
 have KF:=h.open V ⟨x.toArray⟩ dp hk hxm hS
 rw[show hoF d S (⟨x.toArray⟩)=hoF d S (txt x) from rfl,hf,ev_0] at KF
 clear hf
 go_enter Tryz.func25,Tryz.ntmps25
 go_wp2_with (first
  | (go_at_call 43;refine KF.mono ?_;clear KF;rintro e w1 ⟨rfl,h1,b1⟩)
  | (go_at_call 37;refine (mustS_ok _ _).mono ?_;rintro e w2 ⟨rfl,hw2⟩;have:=hw2.symm;subst this))
 go_ret
 exact⟨rfl,h1,b1⟩
theorem withOn (V:DFace T) {k:Nat} (_R0:Rv w0) (h:H1 T w0 K w H d S) (dp:Dp k d) (hk:k<=800) (x:List UInt8) (hx:x.length<=4294967280) (hS:S.length<=1000) (hf:hoF d S (txt x)≠0) :
  Calls Tryz.prog 25 #[.pointer (some ⟨H,0,none⟩),.string ⟨#[111,112,101,110]⟩,.string ⟨x.toArray⟩] w fun e w'=>e=.panicked (thC (hoF d S (txt x)))/\H1 T w0 K w' H (hoD d S (txt x)) (hoS d S (txt x))/\But (fun j=>¬ K j) w w':=by
 have hxm:(⟨x.toArray⟩:ByteArray).size<=maxLen:=by unfold maxLen;simp[ByteArray.size];omega
 have KF:=h.open V ⟨x.toArray⟩ dp hk hxm hS
 rw[show hoF d S (⟨x.toArray⟩)=hoF d S (txt x) from rfl,ev_ne hf] at KF
 have KM:=fun s W=>mustS_no s (hoF d S (txt x)) hf W
 generalize thC (hoF d S (txt x))=th at *
 clear hf
 generalize hoF d S (txt x)=f at *
 go_enter Tryz.func25,Tryz.ntmps25
 go_wp2_with (first
  | (go_at_call 43;refine KF.mono ?_;clear KF;rintro e w1 ⟨rfl,h1,b1⟩)
  | (go_at_call 37;refine (KM _ _).mono ?_;rintro e w2 ⟨rfl,hw2⟩;have:=hw2.symm;subst this))
 exact⟨rfl,rfl,h1,b1⟩
theorem withQ (V:DFace T) {k:Nat} (_R0:Rv w0) (h:H1 T w0 K w H d S) (dp:Dp k d) (hk:k<=800) (x:List UInt8) (hx:x.length<=4294967280) (hf:hqF d S (txt x)=0) :
  Calls Tryz.prog 25 #[.pointer (some ⟨H,0,none⟩),.string ⟨#[113,117,105,116]⟩,.string ⟨x.toArray⟩] w fun e w'=>e=.returned (.string ⟨#[111,107]⟩)/\H1 T w0 K w' H (hqD d S (txt x)) (sDel S (txt x))/\But (fun j=>¬ K j) w w':=by
 have hxm:(⟨x.toArray⟩:ByteArray).size<=maxLen:=by unfold maxLen;simp[ByteArray.size];omega
 have KF:=h.quit V ⟨x.toArray⟩ dp hk hxm
 rw[show hqF d S (⟨x.toArray⟩)=hqF d S (txt x) from rfl,hf,ev_0] at KF
 clear hf
 go_enter Tryz.func25,Tryz.ntmps25
 go_wp2_with (first
  | (go_at_call 44;refine KF.mono ?_;clear KF;rintro e w1 ⟨rfl,h1,b1⟩)
  | (go_at_call 37;refine (mustS_ok _ _).mono ?_;rintro e w2 ⟨rfl,hw2⟩;have:=hw2.symm;subst this))
 go_ret
 exact⟨rfl,h1,b1⟩
theorem withQn (V:DFace T) {k:Nat} (_R0:Rv w0) (h:H1 T w0 K w H d S) (dp:Dp k d) (hk:k<=800) (x:List UInt8) (hx:x.length<=4294967280) (hf:hqF d S (txt x)≠0) :
  Calls Tryz.prog 25 #[.pointer (some ⟨H,0,none⟩),.string ⟨#[113,117,105,116]⟩,.string ⟨x.toArray⟩] w fun e w'=>e=.panicked (thC (hqF d S (txt x)))/\H1 T w0 K w' H (hqD d S (txt x)) (sDel S (txt x))/\But (fun j=>¬ K j) w w':=by
 have hxm:(⟨x.toArray⟩:ByteArray).size<=maxLen:=by unfold maxLen;simp[ByteArray.size];omega
 have KF:=h.quit V ⟨x.toArray⟩ dp hk hxm
 rw[show hqF d S (⟨x.toArray⟩)=hqF d S (txt x) from rfl,ev_ne hf] at KF
 have KM:=fun s W=>mustS_no s (hqF d S (txt x)) hf W
 generalize thC (hqF d S (txt x))=th at *
 clear hf
 generalize hqF d S (txt x)=f at *
 go_enter Tryz.func25,Tryz.ntmps25
 go_wp2_with (first
  | (go_at_call 44;refine KF.mono ?_;clear KF;rintro e w1 ⟨rfl,h1,b1⟩)
  | (go_at_call 37;refine (KM _ _).mono ?_;rintro e w2 ⟨rfl,hw2⟩;have:=hw2.symm;subst this))
 exact⟨rfl,rfl,h1,b1⟩
theorem withC (V:DFace T) {k:Nat} (R0:Rv w0) (h:H1 T w0 K w H d S) (dp:Dp k d) (hk:k<=800) (x:List UInt8) (hx:x.length<=4294967280) (hf:hcF d S (txt x)=0) :
  Calls Tryz.prog 25 #[.pointer (some ⟨H,0,none⟩),.string ⟨#[99,108,111,115,101]⟩,.string ⟨x.toArray⟩] w fun e w'=>e=.returned (.string ⟨(Lib.itoa (hcN d S (txt x))).toArray⟩)/\H1 T w0 K w' H (hcD d S (txt x)) (sDel S (txt x))/\But (fun j=>¬ K j) w w':=by
 have hxm:(⟨x.toArray⟩:ByteArray).size<=maxLen:=by unfold maxLen;simp[ByteArray.size];omega
 have KF:=h.close V ⟨x.toArray⟩ dp hk hxm
 rw[show hcF d S ⟨x.toArray⟩=hcF d S (txt x) from rfl,show hcN d S ⟨x.toArray⟩=hcN d S (txt x) from rfl,hf,ev_0] at KF
 have hn:=hcN_le dp (txt x) (S:=S)
 have KI:=fun W hW=>itoaAny (hcN d S (txt x)) W (by omega) (by omega) hW
 have R3:∀ {W:World},Below w0.heap.size w0 W->Rv W:=fun hb=>R0.step hb
 have HR:Hid _:=@R3
 clear hf hn R3
 generalize Lib.itoa (hcN d S (txt x))=z at *
 generalize hcN d S (txt x)=n at *
 go_enter Tryz.func25,Tryz.ntmps25
 go_wp2_with (first
  | (go_at_call 46;refine KF.mono ?_;clear KF;rintro e w1 ⟨rfl,h1,b1⟩;have R1:=HR.out h1.bl)
  | (go_at_call 45;refine (mustI_ok _ _).mono ?_;rintro e w2 ⟨rfl,hw2⟩;have:=hw2.symm;subst this)
  | (go_at_call 39;refine (KI _ R1.pw).mono ?_;clear KI;rintro e w3 ⟨rfl,b3⟩))
 go_ret
 exact⟨rfl,h1.same V b3,b1.step b3⟩
theorem withCn (V:DFace T) {k:Nat} (_R0:Rv w0) (h:H1 T w0 K w H d S) (dp:Dp k d) (hk:k<=800) (x:List UInt8) (hx:x.length<=4294967280) (hf:hcF d S (txt x)≠0) :
  Calls Tryz.prog 25 #[.pointer (some ⟨H,0,none⟩),.string ⟨#[99,108,111,115,101]⟩,.string ⟨x.toArray⟩] w fun e w'=>e=.panicked (thC (hcF d S (txt x)))/\H1 T w0 K w' H (hcD d S (txt x)) (sDel S (txt x))/\But (fun j=>¬ K j) w w':=by
 have hxm:(⟨x.toArray⟩:ByteArray).size<=maxLen:=by unfold maxLen;simp[ByteArray.size];omega
 have KF:=h.close V ⟨x.toArray⟩ dp hk hxm
 rw[show hcF d S ⟨x.toArray⟩=hcF d S (txt x) from rfl,ev_ne hf] at KF
 have KM:=fun n W=>mustI_no n (hcF d S (txt x)) hf W
 generalize thC (hcF d S (txt x))=th at *
 clear hf
 generalize hcF d S (txt x)=f at *
 go_enter Tryz.func25,Tryz.ntmps25
 go_wp2_with (first
  | (go_at_call 46;refine KF.mono ?_;clear KF;rintro e w1 ⟨rfl,h1,b1⟩)
  | (go_at_call 45;refine (KM _ _).mono ?_;rintro e w2 ⟨rfl,hw2⟩;have:=hw2.symm;subst this))
 exact⟨rfl,rfl,h1,b1⟩
theorem withK (V:DFace T) {k:Nat} (R0:Rv w0) (h:H1 T w0 K w H d S) (dp:Dp k d) (hk:k<=800) (x:List UInt8) (hx:x.length<=4294967280) (n:Int) (hn:nmW x=.ok n) :
  Calls Tryz.prog 25 #[.pointer (some ⟨H,0,none⟩),.string ⟨#[99,114,97,115,104]⟩,.string ⟨x.toArray⟩] w fun e w'=>e=.returned (.string ⟨#[111,107]⟩)/\H1 T w0 K w' H (cdD d n) ([])/\But (fun j=>¬ K j) w w':=by
 have hxm:(⟨x.toArray⟩:ByteArray).size<=maxLen:=by unfold maxLen;simp[ByteArray.size];omega
 have R:=R0.step h.bl
 have KN:=number_ok x n w R hx hn
 have hb:=nmW_bd hn
 have KF:∀ w1,Below w.heap.size w w1->_:=fun w1 b1=>(h.same V b1).crash V n hb dp hk
 clear hn
 go_enter Tryz.func25,Tryz.ntmps25
 go_wp2_with (first
  | (go_at_call 48;refine KN.mono ?_;clear KN;rintro e w1 ⟨rfl,b1⟩)
  | (go_at_call 47;refine (KF _ b1).mono ?_;clear KF;rintro e w2 ⟨rfl,h2,b2⟩))
 go_ret
 exact⟨rfl,h2,(But.below b1).trans b2⟩
theorem withKn (_V:DFace T) {k:Nat} (R0:Rv w0) (h:H1 T w0 K w H d S) (_dp:Dp k d) (_hk:k<=800) (x:List UInt8) (hx:x.length<=4294967280) (f:Int) (hn:nmW x=.error f) :
  Calls Tryz.prog 25 #[.pointer (some ⟨H,0,none⟩),.string ⟨#[99,114,97,115,104]⟩,.string ⟨x.toArray⟩] w fun e w'=>e=.panicked (thC f)/\Below w.heap.size w w':=by
 have hxm:(⟨x.toArray⟩:ByteArray).size<=maxLen:=by unfold maxLen;simp[ByteArray.size];omega
 have R:=R0.step h.bl
 obtain⟨rfl,KN⟩:=number_no x f hx hn
 generalize thC 0=th at *
 clear hn
 go_enter Tryz.func25,Tryz.ntmps25
 go_wp2_with (first
  | (go_at_call 48;refine (KN _ R).mono ?_;clear KN;rintro e w1 ⟨rfl,b1⟩))
 exact⟨rfl,rfl,b1⟩
theorem withF (V:DFace T) {k:Nat} (R0:Rv w0) (h:H1 T w0 K w H d S) (dp:Dp k d) (hk:k<=800) (x:List UInt8) (hx:x.length<=4294967280) (n:Int) (hn:nmW x=.ok n) :
  Calls Tryz.prog 25 #[.pointer (some ⟨H,0,none⟩),.string ⟨#[102,97,105,108]⟩,.string ⟨x.toArray⟩] w fun e w'=>e=.returned (.string ⟨#[111,107]⟩)/\H1 T w0 K w' H (fdD d n) (S)/\But (fun j=>¬ K j) w w':=by
 have hxm:(⟨x.toArray⟩:ByteArray).size<=maxLen:=by unfold maxLen;simp[ByteArray.size];omega
 have R:=R0.step h.bl
 have KN:=number_ok x n w R hx hn
 have hb:=nmW_bd hn
 have KF:∀ w1,Below w.heap.size w w1->_:=fun w1 b1=>(h.same V b1).fail V n hb dp hk
 clear hn
 go_enter Tryz.func25,Tryz.ntmps25
 go_wp2_with (first
  | (go_at_call 48;refine KN.mono ?_;clear KN;rintro e w1 ⟨rfl,b1⟩)
  | (go_at_call 49;refine (KF _ b1).mono ?_;clear KF;rintro e w2 ⟨rfl,h2,b2⟩))
 go_ret
 exact⟨rfl,h2,(But.below b1).trans b2⟩
theorem withFn (_V:DFace T) {k:Nat} (R0:Rv w0) (h:H1 T w0 K w H d S) (_dp:Dp k d) (_hk:k<=800) (x:List UInt8) (hx:x.length<=4294967280) (f:Int) (hn:nmW x=.error f) :
  Calls Tryz.prog 25 #[.pointer (some ⟨H,0,none⟩),.string ⟨#[102,97,105,108]⟩,.string ⟨x.toArray⟩] w fun e w'=>e=.panicked (thC f)/\Below w.heap.size w w':=by
 have hxm:(⟨x.toArray⟩:ByteArray).size<=maxLen:=by unfold maxLen;simp[ByteArray.size];omega
 have R:=R0.step h.bl
 obtain⟨rfl,KN⟩:=number_no x f hx hn
 generalize thC 0=th at *
 clear hn
 go_enter Tryz.func25,Tryz.ntmps25
 go_wp2_with (first
  | (go_at_call 48;refine (KN _ R).mono ?_;clear KN;rintro e w1 ⟨rfl,b1⟩))
 exact⟨rfl,rfl,b1⟩
theorem withNo (p q:Value) (v:List UInt8) (w:World) (h1:(v == [111,112,101,110])=false) (h2:(v == [113,117,105,116])=false) (h3:(v == [99,108,111,115,101])=false) (h4:(v == [99,114,97,115,104])=false) (h5:(v == [102,97,105,108])=false) :
  Calls Tryz.prog 25 #[p,.string ⟨v.toArray⟩,q] w fun e w'=>e=.panicked (thC 0)/\w'=w:=by
 unfold thC
 rw[thr_0]
 go_enter Tryz.func25,Tryz.ntmps25
 go_wp2
 exact⟨rfl,rfl,rfl⟩
theorem with_ (V:DFace T) {k:Nat} (R0:Rv w0) (h:H1 T w0 K w H d S) (dp:Dp k d) (hk:k<=800) (hS:S.length<=1000) (v x:List UInt8) (hx:x.length<=4294967280) :
  Calls Tryz.prog 25 #[.pointer (some ⟨H,0,none⟩),.string ⟨v.toArray⟩,.string ⟨x.toArray⟩] w fun e w'=>Lo T w0 K H (ln2 d S v x) w e w':=by
 by_cases e1:v=[111,112,101,110]
 ·subst e1
  show Calls _ _ _ _ fun e w'=>Lo T w0 K H (byF (hoF d S (txt x)) okT,hoD d S (txt x),hoS d S (txt x)) w e w'
  by_cases hf:hoF d S (txt x)=0
  ·refine (withO V R0 h dp hk x hx hS hf).mono ?_
   rintro e w' ⟨rfl,g1,g2⟩
   refine⟨?_,g1,g2⟩
   rw[enR_by,if_pos hf]
   rfl
  ·refine (withOn V R0 h dp hk x hx hS hf).mono ?_
   rintro e w' ⟨rfl,g1,g2⟩
   refine⟨?_,g1,g2⟩
   rw[enR_by,if_neg hf]
 by_cases e2:v=[113,117,105,116]
 ·subst e2
  show Calls _ _ _ _ fun e w'=>Lo T w0 K H (byF (hqF d S (txt x)) okT,hqD d S (txt x),sDel S (txt x)) w e w'
  by_cases hf:hqF d S (txt x)=0
  ·refine (withQ V R0 h dp hk x hx hf).mono ?_
   rintro e w' ⟨rfl,g1,g2⟩
   refine⟨?_,g1,g2⟩
   rw[enR_by,if_pos hf]
   rfl
  ·refine (withQn V R0 h dp hk x hx hf).mono ?_
   rintro e w' ⟨rfl,g1,g2⟩
   refine⟨?_,g1,g2⟩
   rw[enR_by,if_neg hf]
 by_cases e3:v=[99,108,111,115,101]
 ·subst e3
  show Calls _ _ _ _ fun e w'=>Lo T w0 K H (byF (hcF d S (txt x)) (Lib.itoa (hcN d S (txt x))),hcD d S (txt x),sDel S (txt x)) w e w'
  by_cases hf:hcF d S (txt x)=0
  ·refine (withC V R0 h dp hk x hx hf).mono ?_
   rintro e w' ⟨rfl,g1,g2⟩
   refine⟨?_,g1,g2⟩
   rw[enR_by,if_pos hf]
  ·refine (withCn V R0 h dp hk x hx hf).mono ?_
   rintro e w' ⟨rfl,g1,g2⟩
   refine⟨?_,g1,g2⟩
   rw[enR_by,if_neg hf]
 by_cases e4:v=[99,114,97,115,104]
 ·subst e4
  show Calls _ _ _ _ fun e w'=>Lo T w0 K H (match nmW x with | .ok n=>(.ok okT,cdD d n,[]) | .error f=>(.error f,d,S)) w e w'
  cases hn:nmW x with
  | ok n=>
   refine (withK V R0 h dp hk x hx n hn).mono ?_
   rintro e w' ⟨rfl,g1,g2⟩
   exact⟨rfl,g1,g2⟩
  | error f=>
   refine (withKn V R0 h dp hk x hx f hn).mono ?_
   rintro e w' ⟨rfl,g⟩
   exact⟨rfl,h.same V g,.below g⟩
 by_cases e5:v=[102,97,105,108]
 ·subst e5
  show Calls _ _ _ _ fun e w'=>Lo T w0 K H (match nmW x with | .ok n=>(.ok okT,fdD d n,S) | .error f=>(.error f,d,S)) w e w'
  cases hn:nmW x with
  | ok n=>
   refine (withF V R0 h dp hk x hx n hn).mono ?_
   rintro e w' ⟨rfl,g1,g2⟩
   exact⟨rfl,g1,g2⟩
  | error f=>
   refine (withFn V R0 h dp hk x hx f hn).mono ?_
   rintro e w' ⟨rfl,g⟩
   exact⟨rfl,h.same V g,.below g⟩
 have g1:=beq_eq_false_iff_ne.2 e1
 have g2:=beq_eq_false_iff_ne.2 e2
 have g3:=beq_eq_false_iff_ne.2 e3
 have g4:=beq_eq_false_iff_ne.2 e4
 have g5:=beq_eq_false_iff_ne.2 e5
 rw[show ln2 d S v x=(.error 0,d,S) from by unfold ln2 isOpen isQuit isClose isCrash isFail;rw[g1,g2,g3,g4,g5];rfl]
 refine (withNo (.pointer (some ⟨H,0,none⟩)) (.string ⟨x.toArray⟩) v w g1 g2 g3 g4 g5).mono ?_
 rintro e w' ⟨rfl,rfl⟩
 exact⟨rfl,h,But.refl _ _⟩
end
end Go.Proofs.YtcjdoeclblhaeaaGreatDoor.Rn
namespace Go.Proofs.YtcjdoeclblhaeaaGreatDoor.Rn
open Go.RowKit Go.Maps Pa Vs
section
variable {T:Td} {w0 w w':World} {K:Nat->Prop} {H:Nat} {d:Dk} {S:Ses}
theorem beq6 {a b:Int} (h:a=b):(a==b)=true:=by rw[h];exact beq_self_eq_true b
theorem bne6 {a b:Int} (h:¬ a=b):(a==b)=false:=beq_eq_false_iff_ne.2 h
theorem ask_ (V:DFace T) {k:Nat} (R0:Rv w0) (h:H1 T w0 K w H d S) (dp:Dp k d) (hk:k<=800) (who v:List UInt8) (ws:List (List UInt8)) (b cap:Nat) (hW:Wd w b 2 ws) (hw:who.length<=4294967280) :
  Calls Tryz.prog 26 #[.pointer (some ⟨H,0,none⟩),.string ⟨who.toArray⟩,.string ⟨v.toArray⟩,.slice (some ⟨b,2,none⟩) ws.length cap] w fun e w'=>Lo T w0 K H (ln3 d S who v ws) w e w':=by
 cases hc:clW v ws with
 | error f=>exact askN V R0 h who v ws b cap hW f hc
 | ok c=>
  by_cases hf:haF d S (txt who) c=0
  ·have few:=haA_few dp hk (txt who) c (S:=S)
   by_cases h6:c.what=6
   ·by_cases hq:Bur.fault (haA d S (txt who) c).p.1 (haA d S (txt who) c).p.2=0
    ·exact askP V R0 h dp hk who v ws b cap hW hw c hc hf (beq6 h6) hq (by unfold anT;rw[if_pos h6];exact if_pos hq)
    ·exact askPn V R0 h dp hk who v ws b cap hW hw c hc hf (beq6 h6) hq (by unfold anT;rw[if_pos h6];exact if_neg hq)
   by_cases h7:c.what=7
   ·cases hq:Bur.isA (haA d S (txt who) c).ad with
    | true=>exact askA V R0 h dp hk who v ws b cap hW hw c hc hf (bne6 h6) (beq6 h7) hq (by unfold anT byF;rw[if_neg h6,if_pos h7,hq];rfl)
    | false=>exact askAn V R0 h dp hk who v ws b cap hW hw c hc hf (bne6 h6) (beq6 h7) hq (by unfold anT byF;rw[if_neg h6,if_pos h7,hq];rfl)
   by_cases h8:c.what=8
   ·cases ht:ppL (haA d S (txt who) c).l with
    | ok ts=>
     have g:=list_le ht few.1
     exact askL V R0 h dp hk who v ws b cap hW hw c hc hf (bne6 h6) (bne6 h7) (beq6 h8) few.1 ts ht (by omega) (by omega) (by unfold anT;rw[if_neg h6,if_neg h7,if_pos h8,ht];rfl)
    | error f=>exact askLn V R0 h dp hk who v ws b cap hW hw c hc hf (bne6 h6) (bne6 h7) (beq6 h8) few.1 f ht (by unfold anT;rw[if_neg h6,if_neg h7,if_pos h8,ht];rfl)
   by_cases h9:c.what=9
   ·exact askW V R0 h dp hk who v ws b cap hW hw c hc hf (bne6 h6) (bne6 h7) (bne6 h8) (beq6 h9) (by unfold anT;rw[if_neg h6,if_neg h7,if_neg h8,if_pos h9])
   ·exact askO V R0 h dp hk who v ws b cap hW hw c hc hf (bne6 h6) (bne6 h7) (bne6 h8) (bne6 h9) (by unfold anT;rw[if_neg h6,if_neg h7,if_neg h8,if_neg h9])
  ·exact askF V R0 h dp hk who v ws b cap hW hw c hc hf
theorem do1 (V:DFace T) {k:Nat} (R0:Rv w0) (h:H1 T w0 K w H d S) (dp:Dp k d) (hk:k<=800) (v:List UInt8) (b cap:Nat) (hW:Wd w b 0 [v]) :
  Calls Tryz.prog 17 #[.pointer (some ⟨H,0,none⟩),.slice (some ⟨b,0,none⟩) 1 cap] w fun e w'=>Lo T w0 K H (lnE d S [v]) w e w':=by
 have KA:=alone_ V R0 h dp hk v
 have k0:w.cell? ⟨b,0,none⟩=some (.string ⟨v.toArray⟩):=hW.c 0 v rfl
 rw[show lnE d S [v]=(ln1 d v,ln1D d v,S) from rfl]
 generalize ln1D d v=d2 at *
 clear hW
 cases hr:ln1 d v with
 | ok t=>
  rw[hr] at KA
  have L:∀ {w1:World} {e:Ending},Lo T w0 K H (.ok t,d2,S) w e w1->Lo T w0 K H (.ok t,d2,S) w e w1:=fun h=>h
  clear hr
  go_enter Tryz.func17,Tryz.ntmps17
  go_wp2_with (go_at_call 24;refine KA.mono ?_;clear KA;rintro e w1 ⟨h1,h2,h3⟩;have h1:e=.returned (strV t):=h1;subst h1)
  go_ret
  exact⟨rfl,h2,h3⟩
 | error f=>
  rw[hr] at KA
  clear hr
  have KB:∃ th,th=thC f:=⟨_,rfl⟩
  obtain⟨th,hth⟩:=KB
  have HTH:Hid _:=hth
  clear hth
  go_enter Tryz.func17,Tryz.ntmps17
  go_wp2_with (go_at_call 24;refine KA.mono ?_;clear KA;rintro e w1 ⟨h1,h2,h3⟩;have h1:e=.panicked th:=(by rw[HTH.out];exact h1);subst h1)
  exact⟨rfl,by rw[HTH.out];rfl,h2,h3⟩
end
end Go.Proofs.YtcjdoeclblhaeaaGreatDoor.Rn
namespace Go.Proofs.YtcjdoeclblhaeaaGreatDoor.Rn
open Go.RowKit Go.Maps Pa Vs
section
variable {T:Td} {w0 w w':World} {K:Nat->Prop} {H:Nat} {d:Dk} {S:Ses}
theorem Lo.drew {r:Rw (List UInt8)×Dk×Ses} {e:Ending} (h:Lo T w0 K H r w.drew e w'):Lo T w0 K H r w e w':=⟨h.1,h.2.1,(But.below (below_self w).drew).trans h.2.2⟩
theorem do2 (V:DFace T) {k:Nat} (R0:Rv w0) (h:H1 T w0 K w H d S) (dp:Dp k d) (hk:k<=800) (hS:S.length<=1000) (v x:List UInt8) (b cap:Nat) (hW:Wd w b 0 [v,x]) (hK:K b) :
  Calls Tryz.prog 17 #[.pointer (some ⟨H,0,none⟩),.slice (some ⟨b,0,none⟩) 2 cap] w fun e w'=>Lo T w0 K H (lnE d S [v,x]) w e w':=by
 have KW:=with_ V R0 (h.same V (below_self w).drew) dp hk hS v x (hW.sm x (by simp))
 have hb:b<w.drew.heap.size:=hW.lt
 have k0:w.cell? ⟨b,0,none⟩=some (.string ⟨v.toArray⟩):=by simpa using hW.c 0 v rfl
 have k1:w.cell? ⟨b,1,none⟩=some (.string ⟨x.toArray⟩):=by simpa using hW.c 1 x rfl
 rw[show lnE d S [v,x]=ln2 d S v x from rfl]
 generalize ln2 d S v x=r at *
 clear hW h
 obtain⟨r1,d2,S2⟩:=r
 cases r1 with
 | ok t=>
  go_enter Tryz.func17,Tryz.ntmps17
  go_wp2
  go_region_held3 (fun w2=>w2.cell? ⟨b,0,none⟩=some (.string ⟨v.toArray⟩)/\w2.cell? ⟨b,1,none⟩=some (.string ⟨x.toArray⟩)) (first|exact⟨q0,q1⟩|go_simp)
   (first|(go_at_call 25;refine KW.mono ?_;rintro e w1 ⟨h1,h2,h3⟩;replace h1:e=.returned (strV t):=h1;subst h1;have q0:=(h3.cell (p:=⟨b,0,none⟩) hb (fun z=>z hK)).trans (show w.drew.cell? ⟨b,0,none⟩=_ from k0);have q1:=(h3.cell (p:=⟨b,1,none⟩) hb (fun z=>z hK)).trans (show w.drew.cell? ⟨b,1,none⟩=_ from k1)))
  go_wp2
  go_ret
  exact Lo.drew ⟨rfl,h2,h3⟩
 | error f=>
  obtain⟨th,hth⟩:∃ th,th=thC f:=⟨_,rfl⟩
  have HTH:Hid _:=hth
  clear hth
  go_enter Tryz.func17,Tryz.ntmps17
  go_wp2
  refine wp_region_held_drew (S:=(fun w2=>w2.cell? ⟨b,0,none⟩=some (.string ⟨v.toArray⟩)/\w2.cell? ⟨b,1,none⟩=some (.string ⟨x.toArray⟩))) (by kernel_rfl) (by exact⟨k0,k1⟩) (fun hHeld0=>?_)
  refine wpAnyH_take (i:=0) (oi:=⟨_,_,_,_,_,_⟩) (v:=?_) rfl (by kernel_rfl) (by kernel_rfl) (by kernel_rfl) (fun _ _ _ h=>h) (Or.inl ⟨by rfl,?_⟩) (by assumption) ?_
  rotate_left
  ·(intro w hSw;(try dsimp only at hSw);go_simp;try with_reducible rfl)
  try simp only [Act.put,List.setIfInBounds_toArray,List.set_cons_zero,List.set_cons_succ]
  refine wpAnyH_take (i:=1) (oi:=⟨_,_,_,_,_,_⟩) (v:=?_) rfl (by kernel_rfl) (by kernel_rfl) (by kernel_rfl) (fun _ _ _ h=>h) (Or.inl ⟨by rfl,?_⟩) (by assumption) ?_
  rotate_left
  ·(intro w hSw;(try dsimp only at hSw);go_simp;try with_reducible rfl)
  try simp only [Act.put,List.setIfInBounds_toArray,List.set_cons_zero,List.set_cons_succ]
  refine wpAnyH_take (i:=2) (oi:=⟨_,_,_,_,_,_⟩) (v:=?_) rfl (by kernel_rfl) (by kernel_rfl) (by kernel_rfl) (fun _ _ _ h=>h) (Or.inl ⟨by rfl,?_⟩) (by assumption) ?_
  rotate_left
  ·(intro w hSw;(try dsimp only at hSw);go_simp;try with_reducible rfl)
  try simp only [Act.put,List.setIfInBounds_toArray,List.set_cons_zero,List.set_cons_succ]
  refine wpAnyH_take (i:=3) (oi:=⟨_,_,_,_,_,_⟩) (v:=?_) rfl (by kernel_rfl) (by kernel_rfl) (by kernel_rfl) (fun _ _ _ h=>h) (Or.inl ⟨by rfl,?_⟩) (by assumption) ?_
  rotate_left
  ·(intro w hSw;(try dsimp only at hSw);go_simp;try with_reducible rfl)
  try simp only [Act.put,List.setIfInBounds_toArray,List.set_cons_zero,List.set_cons_succ]
  refine wpAnyH_take (i:=4) (oi:=⟨_,_,_,_,_,_⟩) (v:=?_) rfl (by kernel_rfl) (by kernel_rfl) (by kernel_rfl) (fun _ _ _ h=>h) (Or.inl ⟨by rfl,?_⟩) (by assumption) ?_
  rotate_left
  ·(intro w hSw;(try dsimp only at hSw);go_simp;try with_reducible rfl)
  try simp only [Act.put,List.setIfInBounds_toArray,List.set_cons_zero,List.set_cons_succ]
  refine wpAnyH_take (i:=5) (oi:=⟨_,_,_,_,_,_⟩) (v:=?_) rfl (by kernel_rfl) (by kernel_rfl) (by kernel_rfl) (fun _ _ _ h=>h) (Or.inl ⟨by rfl,?_⟩) (by assumption) ?_
  rotate_left
  ·(intro w hSw;(try dsimp only at hSw);go_simp;try with_reducible rfl)
  try simp only [Act.put,List.setIfInBounds_toArray,List.set_cons_zero,List.set_cons_succ]
  refine wpAnyH_take (i:=6) (oi:=⟨_,_,_,_,_,_⟩) (v:=?_) rfl (by kernel_rfl) (by kernel_rfl) (by kernel_rfl) (fun _ _ _ h=>h) (Or.inl ⟨by rfl,?_⟩) (by assumption) ?_
  rotate_left
  ·(intro w hSw;(try dsimp only at hSw);go_simp;try with_reducible rfl)
  try simp only [Act.put,List.setIfInBounds_toArray,List.set_cons_zero,List.set_cons_succ]
  refine wpAnyH_ready (rs:=[7]) (by kernel_rfl) (by simp) ?_
  refine AllReadyH.cons (o:=⟨_,_,_,_,_,_⟩) rfl (fun K hK=>?_) AllReadyH.nil
  go_simp
  go_at_call 25
  refine KW.mono ?_
  rintro e w1 ⟨h1,h2,h3⟩
  replace h1:e=.panicked th:=by rw[HTH.out];exact h1
  subst h1
  exact⟨rfl,Lo.drew ⟨by rw[HTH.out];rfl,h2,h3⟩⟩
theorem do3 (V:DFace T) {k:Nat} (R0:Rv w0) (h:H1 T w0 K w H d S) (dp:Dp k d) (hk:k<=800) (who v x:List UInt8) (l:List (List UInt8)) (b n cap:Nat) (hn:n=l.length+3) (hc:n<=cap) (hW:Wd w b 0 (who :: v :: x :: l)) (hK:K b) :
  Calls Tryz.prog 17 #[.pointer (some ⟨H,0,none⟩),.slice (some ⟨b,0,none⟩) n cap] w fun e w'=>Lo T w0 K H (lnE d S (who :: v :: x :: l)) w e w':=by
 have W2:Wd w.drew b 2 (x :: l):=⟨fun j y hy=>by
  have:=hW.c (j+2) y (by simpa using hy)
  rw[Nat.zero_add,Nat.add_comm] at this
  exact this,hW.lt,fun y hy=>hW.sm y (by simp only [List.mem_cons] at hy ⊢;exact .inr (.inr hy))⟩
 have KW:∀ c2,Calls Tryz.prog 26 #[.pointer (some ⟨H,0,none⟩),.string ⟨who.toArray⟩,.string ⟨v.toArray⟩,.slice (some ⟨b,2,none⟩) (n - 2) c2] w.drew fun e w'=>Lo T w0 K H (ln3 d S who v (x :: l)) w.drew e w':=fun c2=>by
  rw[show n - 2=(x :: l).length from by simp;omega]
  exact ask_ V R0 (h.same V (below_self w).drew) dp hk who v (x :: l) b c2 W2 (hW.sm who (by simp))
 have hb:b<w.drew.heap.size:=hW.lt
 have k0:w.cell? ⟨b,0,none⟩=some (.string ⟨who.toArray⟩):=by simpa using hW.c 0 who rfl
 have k1:w.cell? ⟨b,1,none⟩=some (.string ⟨v.toArray⟩):=by simpa using hW.c 1 v rfl
 have n0:¬ ((n:Int)=1):=by omega
 have n1:¬ ((n:Int)=2):=by omega
 have n2:(0:Int)<(n:Int):=by omega
 have n3:(1:Int)<(n:Int):=by omega
 have n4:(2:Int)<=(n:Int):=by omega
 have n5:(n:Int)<=(cap:Int):=by omega
 have n6:2<cap:=by omega
 have n7:0<n:=by omega
 have n8:¬ cap=2:=by omega
 rw[show lnE d S (who :: v :: x :: l)=ln3 d S who v (x :: l) from rfl]
 generalize ln3 d S who v (x :: l)=r at *
 clear hW h W2 hn hc
 obtain⟨r1,d2,S2⟩:=r
 cases r1 with
 | ok t=>
  go_enter Tryz.func17,Tryz.ntmps17
  go_wp2
  go_region_held3 (fun w2=>w2.cell? ⟨b,0,none⟩=some (.string ⟨who.toArray⟩)/\w2.cell? ⟨b,1,none⟩=some (.string ⟨v.toArray⟩)) (first|exact⟨q0,q1⟩|go_simp)
   (first|(go_at_call 26;refine (KW _).mono ?_;rintro e w1 ⟨h1,h2,h3⟩;replace h1:e=.returned (strV t):=h1;subst h1;have q0:=(h3.cell (p:=⟨b,0,none⟩) hb (fun z=>z hK)).trans (show w.drew.cell? ⟨b,0,none⟩=_ from k0);have q1:=(h3.cell (p:=⟨b,1,none⟩) hb (fun z=>z hK)).trans (show w.drew.cell? ⟨b,1,none⟩=_ from k1)))
  go_wp2
  go_ret
  exact Lo.drew ⟨rfl,h2,h3⟩
 | error f=>
  obtain⟨th,hth⟩:∃ th,th=thC f:=⟨_,rfl⟩
  have HTH:Hid _:=hth
  clear hth
  go_enter Tryz.func17,Tryz.ntmps17
  go_wp2
  refine wp_region_held_drew (S:=(fun w2=>w2.cell? ⟨b,0,none⟩=some (.string ⟨who.toArray⟩)/\w2.cell? ⟨b,1,none⟩=some (.string ⟨v.toArray⟩))) (by kernel_rfl) (by exact⟨k0,k1⟩) (fun hHeld0=>?_)
  refine wpAnyH_take (i:=0) (oi:=⟨_,_,_,_,_,_⟩) (v:=?_) rfl (by kernel_rfl) (by kernel_rfl) (by kernel_rfl) (fun _ _ _ h=>h) (Or.inl ⟨by rfl,?_⟩) (by assumption) ?_
  rotate_left
  ·(intro w hSw;(try dsimp only at hSw);go_simp;try with_reducible rfl)
  try simp only [Act.put,List.setIfInBounds_toArray,List.set_cons_zero,List.set_cons_succ]
  refine wpAnyH_take (i:=1) (oi:=⟨_,_,_,_,_,_⟩) (v:=?_) rfl (by kernel_rfl) (by kernel_rfl) (by kernel_rfl) (fun _ _ _ h=>h) (Or.inl ⟨by rfl,?_⟩) (by assumption) ?_
  rotate_left
  ·(intro w hSw;(try dsimp only at hSw);go_simp;try with_reducible rfl)
  try simp only [Act.put,List.setIfInBounds_toArray,List.set_cons_zero,List.set_cons_succ]
  refine wpAnyH_take (i:=2) (oi:=⟨_,_,_,_,_,_⟩) (v:=?_) rfl (by kernel_rfl) (by kernel_rfl) (by kernel_rfl) (fun _ _ _ h=>h) (Or.inl ⟨by rfl,?_⟩) (by assumption) ?_
  rotate_left
  ·(intro w hSw;(try dsimp only at hSw);go_simp;try with_reducible rfl)
  try simp only [Act.put,List.setIfInBounds_toArray,List.set_cons_zero,List.set_cons_succ]
  refine wpAnyH_take (i:=3) (oi:=⟨_,_,_,_,_,_⟩) (v:=?_) rfl (by kernel_rfl) (by kernel_rfl) (by kernel_rfl) (fun _ _ _ h=>h) (Or.inl ⟨by rfl,?_⟩) (by assumption) ?_
  rotate_left
  ·(intro w hSw;(try dsimp only at hSw);go_simp;try with_reducible rfl)
  try simp only [Act.put,List.setIfInBounds_toArray,List.set_cons_zero,List.set_cons_succ]
  refine wpAnyH_take (i:=4) (oi:=⟨_,_,_,_,_,_⟩) (v:=?_) rfl (by kernel_rfl) (by kernel_rfl) (by kernel_rfl) (fun _ _ _ h=>h) (Or.inl ⟨by rfl,?_⟩) (by assumption) ?_
  rotate_left
  ·(intro w hSw;(try dsimp only at hSw);go_simp;try with_reducible rfl)
  try simp only [Act.put,List.setIfInBounds_toArray,List.set_cons_zero,List.set_cons_succ]
  refine wpAnyH_take (i:=5) (oi:=⟨_,_,_,_,_,_⟩) (v:=?_) rfl (by kernel_rfl) (by kernel_rfl) (by kernel_rfl) (fun _ _ _ h=>h) (Or.inl ⟨by rfl,?_⟩) (by assumption) ?_
  rotate_left
  ·(intro w hSw;(try dsimp only at hSw);go_simp;try with_reducible rfl)
  try simp only [Act.put,List.setIfInBounds_toArray,List.set_cons_zero,List.set_cons_succ]
  refine wpAnyH_take (i:=6) (oi:=⟨_,_,_,_,_,_⟩) (v:=?_) rfl (by kernel_rfl) (by kernel_rfl) (by kernel_rfl) (fun _ _ _ h=>h) (Or.inl ⟨by rfl,?_⟩) (by assumption) ?_
  rotate_left
  ·(intro w hSw;(try dsimp only at hSw);go_simp;try with_reducible rfl)
  try simp only [Act.put,List.setIfInBounds_toArray,List.set_cons_zero,List.set_cons_succ]
  refine wpAnyH_take (i:=7) (oi:=⟨_,_,_,_,_,_⟩) (v:=?_) rfl (by kernel_rfl) (by kernel_rfl) (by kernel_rfl) (fun _ _ _ h=>h) (Or.inl ⟨by rfl,?_⟩) (by assumption) ?_
  rotate_left
  ·(intro w hSw;(try dsimp only at hSw);go_simp;try with_reducible rfl)
  try simp only [Act.put,List.setIfInBounds_toArray,List.set_cons_zero,List.set_cons_succ]
  refine wpAnyH_take (i:=8) (oi:=⟨_,_,_,_,_,_⟩) (v:=?_) rfl (by kernel_rfl) (by kernel_rfl) (by kernel_rfl) (fun _ _ _ h=>h) (Or.inl ⟨by rfl,?_⟩) (by assumption) ?_
  rotate_left
  ·(intro w hSw;(try dsimp only at hSw);go_simp;try with_reducible rfl)
  try simp only [Act.put,List.setIfInBounds_toArray,List.set_cons_zero,List.set_cons_succ]
  refine wpAnyH_ready (rs:=[9]) (by kernel_rfl) (by simp) ?_
  refine AllReadyH.cons (o:=⟨_,_,_,_,_,_⟩) rfl (fun K hK=>?_) AllReadyH.nil
  go_simp
  go_at_call 26
  refine (KW _).mono ?_
  rintro e w1 ⟨h1,h2,h3⟩
  replace h1:e=.panicked th:=by rw[HTH.out];exact h1
  subst h1
  exact⟨rfl,Lo.drew ⟨by rw[HTH.out];rfl,h2,h3⟩⟩
end
end Go.Proofs.YtcjdoeclblhaeaaGreatDoor.Rn
namespace Go.Proofs.YtcjdoeclblhaeaaGreatDoor.Rn
open Go.RowKit Go.Maps Pa Vs
section
variable {T:Td} {w0 w w':World} {K:Nat->Prop} {H:Nat} {d:Dk} {S:Ses}
theorem do_ (V:DFace T) {k:Nat} (R0:Rv w0) (h:H1 T w0 K w H d S) (dp:Dp k d) (hk:k<=800) (hS:S.length<=1000) (ws:List (List UInt8)) (b:Nat) (hp:0<ws.length) (hW:Wd w b 0 ws) (hK:K b) :
  Calls Tryz.prog 17 #[.pointer (some ⟨H,0,none⟩),.slice (some ⟨b,0,none⟩) ws.length ws.length] w fun e w'=>Lo T w0 K H (lnE d S ws) w e w':=by
 match ws,hp,hW with
 | [v],_,hW=>exact do1 V R0 h dp hk v b 1 hW
 | [v,x],_,hW=>exact do2 V R0 h dp hk hS v x b 2 hW hK
 | who :: v :: x :: l,_,hW=>exact do3 V R0 h dp hk who v x l b (l.length+3) (l.length+3) rfl (Nat.le_refl _) hW hK
theorem splitAny (l:List UInt8) (W:World) (hl:l.length<=4294967280) (hm:MaxL W) :
  Calls Tryz.prog 18 #[.string ⟨l.toArray⟩,.string ⟨#[32]⟩] W fun e w'=>e=.returned (.slice (some ⟨W.heap.size,0,none⟩) (wds l).length (wds l).length)/\Wd w' W.heap.size 0 (wds l)/\Below W.heap.size W w':=by
 obtain⟨m,hm⟩:=hm
 have KS:=Tryz.strings_Split ⟨l.toArray⟩ ⟨#[32]⟩ m W (by show l.toArray.size<_;simp;omega) hm (by decide)
 have hw:=split_wds l
 have hlen:=Lib.splitB_all ⟨#[32]⟩ (by decide) 0 _ ⟨l.toArray⟩ rfl
 have e:(wds l).length=Lib.countB ⟨l.toArray⟩ ⟨#[32]⟩+1:=by rw[<- hw,List.length_map,hlen]
 rw[e]
 refine KS.mono ?_
 rintro e w' ⟨rfl,rfl⟩
 refine⟨rfl,⟨fun j x hx=>?_,by simp,fun x hx=>?_⟩,below_al (below_self _) _⟩
 ·rw[<- hw,List.getElem?_map] at hx
  obtain⟨z,hz,rfl⟩:=Option.map_eq_some_iff.1 hx
  rw[Nat.zero_add,World.cell?_alloc_at _ _ _ _ (by simp)]
  simp[hz]
 ·have h1:=wsum_mem hx
  rw[wds_sum] at h1
  omega
theorem ans_end (V:DFace T) (en:En w0) {w2 w3 w4:World} {d2:Dk} {S2:Ses} (h:H1 T w0 K w H d S) (b2:Below w.heap.size w w2) (hlt:w.heap.size<w2.heap.size) (h3:H1 T w0 (fun j=>K j \/ (w.heap.size<=j/\j<w2.heap.size)) w3 H d2 S2) (b3:But (fun j=>¬ (K j \/ (w.heap.size<=j/\j<w2.heap.size))) w2 w3) (b4:But (fun j=>j=w.heap.size) w3 w4) :
  H1 T w0 K w4 H d2 S2/\But (fun j=>¬ K j) w w4:=by
 have s:=h.bl.size
 refine⟨(h3.mine V en b4 (fun j hj=>.inr ⟨by omega,by omega⟩) (fun j hj=>by omega)).mono (fun j hj=>.inl (.inl hj)) h.old,?_⟩
 have a:But (fun j=>¬ K j) w w3:=(But.below b2).trans (b3.mono (fun j _ hj q=>hj (.inl q)))
 exact a.then b4 (fun i hi g=>by omega)
theorem answer_ (V:DFace T) {k:Nat} (R0:Rv w0) (h:H1 T w0 K w H d S) (dp:Dp k d) (hk:k<=800) (hS:S.length<=1000) (l:List UInt8) (hl:l.length<=4294967280) :
  Calls Tryz.prog 8 #[.pointer (some ⟨H,0,none⟩),.string ⟨l.toArray⟩] w fun e w'=>e=.returned (.string ⟨(ln (d,S) l).1.toArray⟩)/\H1 T w0 K w' H (ln (d,S) l).2.1 (ln (d,S) l).2.2/\But (fun j=>¬ K j) w w':=by
 have R:=R0.step h.bl
 have bA:=below_al (below_self w) (.cells #[.string ⟨#[]⟩] 9)
 have a0:(w.alloc (.cells #[.string ⟨#[]⟩] 9)).cell? ⟨w.heap.size,0,none⟩=some (.string ⟨#[]⟩):=by simp
 have a1:(w.alloc (.cells #[.string ⟨#[]⟩] 9)).frozen? ⟨w.heap.size,0,none⟩=false:=by simp
 have al:w.heap.size<(w.alloc (.cells #[.string ⟨#[]⟩] 9)).heap.size:=by simp
 have asz:(w.alloc (.cells #[.string ⟨#[]⟩] 9)).heap.size=w.heap.size+1:=by simp
 have KS:Calls Tryz.prog 18 #[.string ⟨l.toArray⟩,.string ⟨#[32]⟩] (w.alloc (.cells #[.string ⟨#[]⟩] 9)) fun e w2=>e=.returned (.slice (some ⟨w.heap.size+1,0,none⟩) (wds l).length (wds l).length)/\Wd w2 (w.heap.size+1) 0 (wds l)/\Below w.heap.size w w2/\w.heap.size<w2.heap.size/\w2.cell? ⟨w.heap.size,0,none⟩=some (.string ⟨#[]⟩)/\w2.frozen? ⟨w.heap.size,0,none⟩=false:=by
  refine (splitAny l _ hl (R.step bA).mx).mono ?_
  rintro e w2 ⟨rfl,hW,hb⟩
  rw[asz] at hW ⊢
  exact⟨rfl,hW,below_via bA hb,Nat.lt_of_lt_of_le al hb.size,(hb.cell (p:=⟨w.heap.size,0,none⟩) al).trans a0,(hb.frozen (p:=⟨w.heap.size,0,none⟩) al).trans a1⟩
 have KD:∀ w2,Below w.heap.size w w2->Wd w2 (w.heap.size+1) 0 (wds l)->Calls Tryz.prog 17 #[.pointer (some ⟨H,0,none⟩),.slice (some ⟨w.heap.size+1,0,none⟩) (wds l).length (wds l).length] w2 fun e w'=>Lo T w0 (fun j=>K j \/ (w.heap.size<=j/\j<w2.heap.size)) H (lnE d S (wds l)) w2 e w':=fun w2 b2 hW=>
  do_ V R0 (h.step V b2) dp hk hS (wds l) _ (wds_pos l) hW (.inr ⟨Nat.le_succ _,hW.lt⟩)
 clear a0 a1 al asz
 have hmf:∀ (fn:Fn) (first cap:Array Value) (w:World),(Instr.makeFunc fn first cap).run Tryz.prog w=.ok (.func fn first cap) w:=fun _ _ _ _=>rfl
 have EN:∀ {w2 w3 w4:World} {d2:Dk} {S2:Ses},Below w.heap.size w w2->w.heap.size<w2.heap.size->H1 T w0 (fun j=>K j \/ (w.heap.size<=j/\j<w2.heap.size)) w3 H d2 S2->But (fun j=>¬ (K j \/ (w.heap.size<=j/\j<w2.heap.size))) w2 w3->But (fun j=>j=w.heap.size) w3 w4->H1 T w0 K w4 H d2 S2/\But (fun j=>¬ K j) w w4:=fun p1 p2 p3 p4 p5=>ans_end V R0.en h p1 p2 p3 p4 p5
 have EH:Hid _:=@EN
 have ET:∀ {w3:World},Below w0.heap.size w0 w3->ErrType w3:=fun hb=>(R0.step hb).et
 have TH:Hid _:=@ET
 clear EN ET
 unfold ln
 generalize lnE d S (wds l)=r at *
 obtain⟨r1,d2,S2⟩:=r
 generalize (wds l).length=n at *
 cases r1 with
 | ok t=>
  show Calls _ _ _ _ fun e w'=>e=.returned (.string ⟨t.toArray⟩)/\H1 T w0 K w' H d2 S2/\_
  go_enter_defers Tryz.func8,Tryz.ntmps8
  go_wp2_with (first
   | (go_at_call 18;refine KS.mono ?_;clear KS;rintro e w2 ⟨rfl,hW,b2,l2,x0,x1⟩)
   | (go_at_call 17;refine (KD _ b2 hW).mono ?_;clear KD;rintro e w3 ⟨h1,h3,b3⟩;replace h1:e=.returned (strV t):=h1;subst h1;have c0:=(b3.cell (p:=⟨w.heap.size,0,none⟩) l2 (fun z=>z (.inr ⟨Nat.le_refl _,l2⟩))).trans x0;have z0:=(b3.frozen (p:=⟨w.heap.size,0,none⟩) l2 (fun z=>z (.inr ⟨Nat.le_refl _,l2⟩))).trans x1))
  have q0:=told_set c0 (strV t)
  refine leaves_cons (f:=14) (args:=#[.pointer (some ⟨w.heap.size,0,none⟩)]) (by simp) (by simp[go_sem]) ?_
  refine (cat_idle ⟨w.heap.size,0,none⟩ _).mono ?_
  rintro e u' w4 ⟨rfl,rfl,rfl⟩
  exact⟨strV t,by simp[results,Tryz.results8,go_sem,q0],rfl,EH.out b2 l2 h3 b3 ((But.refl (fun j=>j=w.heap.size) w3).setCell (p:=⟨w.heap.size,0,none⟩) (.inl rfl) _)⟩
 | error f=>
  by_cases hf:f=0
  ·subst hf
   show Calls _ _ _ _ fun e w'=>e=.returned (.string ⟨badT.toArray⟩)/\H1 T w0 K w' H d2 S2/\_
   obtain⟨th,hth⟩:∃ th,th=thC 0:=⟨_,rfl⟩
   have HTH:Hid _:=hth
   clear hth
   go_enter_defers Tryz.func8,Tryz.ntmps8
   go_wp2_with (first
    | (go_at_call 18;refine KS.mono ?_;clear KS;rintro e w2 ⟨rfl,hW,b2,l2,x0,x1⟩)
    | (go_at_call 17;refine (KD _ b2 hW).mono ?_;clear KD;rintro e w3 ⟨h1,h3,b3⟩;replace h1:e=.panicked th:=(by rw[HTH.out];exact h1);subst h1;have c0:=(b3.cell (p:=⟨w.heap.size,0,none⟩) l2 (fun z=>z (.inr ⟨Nat.le_refl _,l2⟩))).trans x0;have z0:=(b3.frozen (p:=⟨w.heap.size,0,none⟩) l2 (fun z=>z (.inr ⟨Nat.le_refl _,l2⟩))).trans x1))
   obtain rfl:=HTH.out
   refine leaves_cons (f:=14) (args:=#[.pointer (some ⟨w.heap.size,0,none⟩)]) (by simp) (by simp[go_sem]) ?_
   refine (cat_bad w.heap.size _ _ c0 z0).mono ?_
   rintro e u' w4 ⟨rfl,rfl,q0,b4⟩
   simp[Leaves,settle,results,Tryz.results8,go_sem,q0]
   exact EH.out b2 l2 h3 b3 b4
  ·show Calls _ _ _ _ fun e w'=>e=.returned (.string ⟨(if f=0 then badT else errT f).toArray⟩)/\H1 T w0 K w' H d2 S2/\_
   rw[if_neg hf]
   obtain⟨th,hth⟩:∃ th,th=thC f:=⟨_,rfl⟩
   have HTH:Hid _:=hth
   have HF:Hid _:=hf
   clear hth hf
   go_enter_defers Tryz.func8,Tryz.ntmps8
   go_wp2_with (first
    | (go_at_call 18;refine KS.mono ?_;clear KS;rintro e w2 ⟨rfl,hW,b2,l2,x0,x1⟩)
    | (go_at_call 17;refine (KD _ b2 hW).mono ?_;clear KD;rintro e w3 ⟨h1,h3,b3⟩;replace h1:e=.panicked th:=(by rw[HTH.out];exact h1);subst h1;have c0:=(b3.cell (p:=⟨w.heap.size,0,none⟩) l2 (fun z=>z (.inr ⟨Nat.le_refl _,l2⟩))).trans x0;have z0:=(b3.frozen (p:=⟨w.heap.size,0,none⟩) l2 (fun z=>z (.inr ⟨Nat.le_refl _,l2⟩))).trans x1))
   obtain rfl:=HTH.out
   refine leaves_cons (f:=14) (args:=#[.pointer (some ⟨w.heap.size,0,none⟩)]) (by simp) (by simp[go_sem]) ?_
   refine (cat_err w.heap.size _ f HF.out _ (TH.out h3.bl) c0 z0).mono ?_
   rintro e u' w4 ⟨rfl,rfl,q0,b4⟩
   simp[Leaves,settle,results,Tryz.results8,go_sem,q0]
   exact EH.out b2 l2 h3 b3 b4
end
end Go.Proofs.YtcjdoeclblhaeaaGreatDoor.Rn
namespace Go.Proofs.YtcjdoeclblhaeaaGreatDoor.Rn
open Go.RowKit Go.Maps Pa Vs
theorem cut_sum:∀ (t:List UInt8),(Bur.cutc 10 t).1.length+(Bur.cutc 10 t).2.1.length<=t.length
 | []=>by simp[Bur.cutc]
 | x :: r=>by
  have:=cut_sum r
  simp only [Bur.cutc]
  split
  ·simp
  ·simp;omega
theorem cut_less {t:List UInt8} (h:t ≠ []):(Bur.cutc 10 t).2.1.length<t.length:=by
 cases t with
 | nil=>exact absurd rfl h
 | cons x r=>
  have:=cut_sum r
  simp only [Bur.cutc]
  split
  ·simp
  ·simp;omega
theorem stL_snoc {σ : Type} (f : σ -> List UInt8->List UInt8 × σ) (s : σ) (A:List (List UInt8)) (l:List UInt8):stL f s (A ++ [l])=(f (stL f s A) l).2:=by
 rw[stL_app];rfl
def strLen:Value->Nat
 | .string s=>s.size
 | _=>0
section
variable {T:Td} {w0 w w':World} {K:Nat->Prop} {H:Nat} {d:Dk} {S:Ses}
structure Rq (T:Td) (w:World) (H b:Nat) (t0 tr:List UInt8) (wr:World):Prop where
 ex:∃ (done:List (List UInt8)) (k:Nat) (d:Dk) (S:Ses) (p v:Value) (K:Nat->Prop),lns t0=done++lns tr/\stL ln (dk0 3000,[]) done=(d,S)/\5*k+tr.length<=3000/\done.length+tr.length<=3000/\Lk k d S ∧
  (p=.pointer none \/ p=.pointer (some ⟨b,0,none⟩))/\Bv wr b p v (rnL ln (dk0 3000,[]) done)/\(rnL ln (dk0 3000,[]) done).length<=30001*done.length/\H1 T w K wr H d S/\(∀ j,Br b v j->K j/\w.heap.size<=j)
theorem Rq.bl {t0 tr:List UInt8} {b:Nat} (h:Rq T w H b t0 tr w'):Below w.heap.size w w':=by
 obtain⟨_,_,_,_,_,_,_,_,_,_,_,_,_,_,_,h1,_⟩:=h.ex
 exact h1.bl
theorem Rq.line (V:DFace T) (R0:Rv w) {t0 tr:List UInt8} {b:Nat} {wr:World} (h:Rq T w H b t0 tr wr) (ht:tr ≠ []) {w1:World} (hb1:Below wr.heap.size wr w1) :
  Calls Tryz.prog 8 #[.pointer (some ⟨H,0,none⟩),.string ⟨(Bur.cutc 10 tr).1.toArray⟩] w1 fun e w2=>∃ s,e=.returned (.string s) ∧
   Calls Tryz.prog 7 #[.pointer (some ⟨b,0,none⟩),.string s] w2 fun e w3=>e=.returned (.tuple #[.int .i64 s.size,.nilIface]) ∧
    Calls Tryz.prog 9 #[.pointer (some ⟨b,0,none⟩),.int .u8 10] w3 fun e w4=>e=.returned .nilIface/\Rq T w H b t0 (Bur.cutc 10 tr).2.1 w4:=by
 obtain⟨done,k,d,S,p,v,K,e1,e2,e3,e4,lk,hp,bv,hl,h1,hK⟩:=h.ex
 have c1:=cut_sum tr
 have c2:=cut_less ht
 have hk:k<=800:=by omega
 have sl:=lk.sl
 have KA:=answer_ V R0 (h1.same V hb1) lk.dp hk (by omega) (Bur.cutc 10 tr).1 (by omega)
 refine KA.mono ?_
 rintro e w2 ⟨rfl,h2,b2⟩
 have bvA:=bv.but (F:=fun _=>False) (.below hb1) (fun _ _=>id)
 have bvB:=bvA.but b2 (fun j hj q=>q (hK j hj).1)
 have sm:=ln_sml lk.dp hk (Bur.cutc 10 tr).1 (S:=S)
 have hs:(⟨(ln (d,S) (Bur.cutc 10 tr).1).1.toArray⟩:ByteArray).size=(ln (d,S) (Bur.cutc 10 tr).1).1.length:=by simp[ByteArray.size]
 refine⟨_,rfl,?_⟩
 refine (writeStr b p v _ _ w2 bvB hp (by rw[hs];omega)).mono ?_
 rintro e w3 ⟨rfl,v3,bv3,n3,b3⟩
 refine⟨rfl,?_⟩
 have s2:=h2.bl.size
 have h3:=h2.mine V R0.en b3 (fun j hj=>(hK j hj).1) (fun j hj=>(hK j hj).2)
 have hK3:∀ j,Br b v3 j->(K j \/ (w2.heap.size<=j/\j<w3.heap.size))/\w.heap.size<=j:=fun j hj=>by
  have hlt:=(bv3.rlt j hj).2
  rcases n3 j hj with q|q
  ·exact⟨.inl (hK j q).1,(hK j q).2⟩
  ·exact⟨.inr ⟨q,hlt⟩,by omega⟩
 refine (writeByte b _ v3 _ 10 w3 bv3 (.inr rfl) (by simp only [List.length_append];omega)).mono ?_
 rintro e w4 ⟨rfl,v4,bv4,n4,b4⟩
 refine⟨rfl,⟨?_⟩⟩
 have s3:=b3.size
 have h4:=h3.mine V R0.en b4 (fun j hj=>(hK3 j hj).1) (fun j hj=>(hK3 j hj).2)
 obtain⟨k',g1,g2⟩:=ln_lk (s:=(d,S)) lk (Bur.cutc 10 tr).1
 have eo:rnL ln (dk0 3000,[]) (done ++ [(Bur.cutc 10 tr).1])=rnL ln (dk0 3000,[]) done++(ln (d,S) (Bur.cutc 10 tr).1).1 ++ [10]:=by
  rw[rnL_snoc,e2,List.append_assoc]
 refine⟨done ++ [(Bur.cutc 10 tr).1],k',_,_,_,v4,_,?_,?_,?_,?_,g2,.inr rfl,?_,?_,h4,fun j hj=>?_⟩
 ·rw[e1,lns_cut tr ht];simp
 ·rw[stL_snoc,e2]
 ·omega
 ·simp only [List.length_append,List.length_cons,List.length_nil];omega
 ·rw[eo];exact bv4
 ·rw[eo]
  simp only [List.length_append,List.length_cons,List.length_nil,Nat.mul_add]
  omega
 ·have hlt:=(bv4.rlt j hj).2
  rcases n4 j hj with q|q
  ·exact⟨.inl (hK3 j q).1,(hK3 j q).2⟩
  ·exact⟨.inr ⟨q,hlt⟩,by omega⟩
theorem Rq.end_ {t0:List UInt8} {b:Nat} {wr:World} (h:Rq T w H b t0 [] wr) :
  Calls Tryz.prog 10 #[.pointer (some ⟨b,0,none⟩)] wr fun e w'=>e=.returned (.string ⟨(runT t0).toArray⟩)/\Below w.heap.size w w':=by
 obtain⟨done,k,d,S,p,v,K,e1,e2,e3,e4,lk,hp,bv,hl,h1,hK⟩:=h.ex
 have e5:done=lns t0:=by rw[e1];simp[lns]
 rw[e5] at bv
 refine (strAny b p v _ wr bv hp).mono ?_
 rintro e w' ⟨rfl,hb⟩
 exact⟨rfl,h1.bl.trans (hb.mono (hK b (.inl rfl)).2)⟩
theorem run_ (V:DFace T) (t:List UInt8) (w:World) (R:Rv w) (ht:t.length<=3000) :
  Calls Tryz.prog 4 #[.string ⟨t.toArray⟩] w fun e w'=>e=.returned (.string ⟨(runT t).toArray⟩)/\Below w.heap.size w w':=by
 have KN:=H1.new V 3000 w w (fun j=>j<w.heap.size) R.en (by decide) (by decide) (fun j hj=>hj) (fun j hj=>hj) (below_self w)
 have n0:¬ (3000:Int)<(t.length:Int):=by omega
 have n1:((t.length:Int)<=3000):=by omega
 obtain⟨u,hu⟩:∃ u:List UInt8,u=runT t:=⟨_,rfl⟩
 rw[<- hu]
 have HU:Hid _:=hu
 clear hu
 go_enter Tryz.func4,Tryz.ntmps4
 go_wp2_with (go_at_call 5;refine KN.mono ?_;clear KN;rintro e w1 ⟨H,rfl,h1,hb1⟩)
 have r0:Rq T w H w1.heap.size t t (w1.alloc (.cells #[.pointer none,.slice none 0 0] 32)):=by
  have bA:=below_al (below_self w1) (.cells #[.pointer none,.slice none 0 0] 32)
  have s:=hb1.size
  refine⟨[],0,dk0 3000,[],.pointer none,.slice none 0 0,_,rfl,rfl,by omega,by simpa using ht,Lk.new,.inl rfl,Bv.new w1,by simp[rnL],h1.step V bA,fun j hj=>?_⟩
  rcases hj with e|e
  ·subst e
   exact⟨.inr ⟨Nat.le_refl _,by simp⟩,s⟩
  ·cases e
 obtain⟨b,hb⟩:∃ b,b=w1.heap.size:=⟨_,rfl⟩
 rw[<- hb] at r0
 rw[<- hb]
 clear hb
 go_loopw [0] (fun s wr=>∃ (tr:List UInt8),s=.string ⟨tr.toArray⟩/\tr.length<=3000/\Rq T w H b t tr wr) (fun s _=>strLen s)
 case atStart=>exact⟨t,rfl,ht,r0⟩
 case round=>
  obtain⟨tr,rfl,htr,rq⟩:=hrel
  by_cases h0:tr=[]
  ·subst h0
   have KE:=rq.end_
   rw[<- HU.out] at KE
   have bq:=rq.bl
   clear rq
   go_wp2_with (go_at_call 10;refine KE.mono ?_;clear KE;rintro e w2 ⟨rfl,hb2⟩)
   go_ret
   exact⟨rfl,hb2⟩
  ·have hm:MaxL wr:=(R.step rq.bl).mx
   have he:tr.isEmpty=false:=by simpa using h0
   have KL:=fun w1 hb1=>rq.line V R h0 (w1:=w1) hb1
   have hlt:=cut_less h0
   have HT:Hid _:=hlt
   clear rq hlt
   go_wp2_with (first
    | (go_at_call 6;refine (cutAt tr 10 _ (by omega) hm).mono ?_;rintro e w2 ⟨rfl,n2,rfl⟩;have KM:=KL _ (below_drewN (below_self _) n2);clear KL)
    | (go_at_call 8;refine KM.mono ?_;clear KM;rintro e w3 ⟨z,rfl,KW⟩)
    | (go_at_call 7;refine KW.mono ?_;clear KW;rintro e w4 ⟨rfl,KB⟩)
    | (go_at_call 9;refine KB.mono ?_;clear KB;rintro e w5 ⟨rfl,rq⟩))
   exact⟨⟨_,rfl,by have:=HT.out;omega,rq⟩,by have:=HT.out;simp[strLen,ByteArray.size];omega⟩
end
end Go.Proofs.YtcjdoeclblhaeaaGreatDoor.Rn
namespace Go.Proofs.YtcjdoeclblhaeaaGreatDoor.Rn
open Go.RowKit Go.Maps Pa Vs
def rb (s:ByteArray):ByteArray:=⟨(runT s.data.toList).toArray⟩
theorem bself (s:ByteArray):(⟨s.data.toList.toArray⟩:ByteArray)=s:=by cases s;simp
theorem ext0 (s:ByteArray) (k:Nat):(s.extract 0 k).data.toList=s.data.toList.take k:=by
 rw[ByteArray.data_extract,Array.toList_extract]
 simp
theorem rb_all (s:ByteArray):rb (s.extract 0 s.size)=rb s:=by
 unfold rb
 have e:s.data.toList.length=s.size:=Array.length_toList
 rw[ext0,List.take_of_length_le (by omega)]
theorem rb_begins (s:ByteArray) (k:Nat) (h:Nd (s.data.toList.take k)):(rb (s.extract 0 k)).size<=(rb s).size/\(rb s).extract 0 (rb (s.extract 0 k)).size=rb (s.extract 0 k):=by
 obtain⟨r,hr⟩:=rn_begins ln (dk0 3000,[]) s.data.toList k h
 have e1:rb s=⟨(runT (s.data.toList.take k)++r).toArray⟩:=by
  unfold rb
  rw[<- show runT s.data.toList=rn ln (dk0 3000,[]) s.data.toList from rfl] at hr
  rw[<- hr]
  rfl
 have e2:rb (s.extract 0 k)=⟨(runT (s.data.toList.take k)).toArray⟩:=by
  unfold rb
  rw[ext0]
 have z:∀ l:List UInt8,(⟨l.toArray⟩:ByteArray).size=l.length:=fun l=>by simp[ByteArray.size]
 rw[e1,e2,z,z]
 refine⟨by simp,?_⟩
 apply ByteArray.ext
 rw[ByteArray.data_extract]
 apply Array.toList_inj.1
 rw[Array.toList_extract]
 simp
section
variable {T:Td}
theorem run_b (V:DFace T) (s:ByteArray) (w:World) (R:Rv w) (h:s.size<=3000) :
  Calls Tryz.prog 4 #[.string s] w fun e w'=>e=.returned (.string (rb s))/\Below w.heap.size w w':=by
 have e:s.data.toList.length=s.size:=Array.length_toList
 have:=run_ V s.data.toList w R (by omega)
 rw[bself] at this
 exact this
theorem run_fact (V:DFace T) (w:World) (R:Rv w) :
  Calls Tryz.prog 4 #[.string ⟨#[111,112,101,110,32,97,10,97,32,110,101,116,32,120,32,111,10,99,108,111,115,101,32,97,10,102,108,121]⟩] w fun e w'=>e=.returned (.string ⟨#[111,107,10,111,107,10,49,10,98,97,100,10]⟩)/\Below w.heap.size w w':=by
 have:=run_ V [111,112,101,110,32,97,10,97,32,110,101,116,32,120,32,111,10,99,108,111,115,101,32,97,10,102,108,121] w R (by decide)
 rw[runT_fact] at this
 exact this
theorem nl_at {s:ByteArray} {k:Nat} (h:k<s.size) (hb:s[k]=10):s.data.toList[k]? = some 10:=by
 have e:s.data.toList.length=s.size:=Array.length_toList
 rw[List.getElem?_eq_getElem (by omega)]
 congr 1
theorem law_begins (V:DFace T) (s:ByteArray) (n:Int) (w:World) (R:Rv w) (hn:n<=9223372036854775807) :
  Calls Tryz.prog 3 #[.string s,.int .i64 n] w fun e w'=>e=.returned (.bool true)/\Below w.heap.size w w':=by
 have KF:=run_fact V w R
 by_cases h1:3000<s.size
 ·have g1:(3000:Int)<(s.size:Int):=by omega
  go_enter Tryz.func3,Tryz.ntmps3
  go_wp2_with (go_at_call 4;refine KF.mono ?_;clear KF;rintro e w1 ⟨rfl,hb1⟩)
  go_ret
  exact⟨rfl,hb1⟩
 by_cases h2:n<0
 ·have g1:¬ (3000:Int)<(s.size:Int):=by omega
  go_enter Tryz.func3,Tryz.ntmps3
  go_wp2_with (go_at_call 4;refine KF.mono ?_;clear KF;rintro e w1 ⟨rfl,hb1⟩)
  go_ret
  exact⟨rfl,hb1⟩
 have hs:s.size<=3000:=by omega
 have hn0:0<=n:=by omega
 have g1:¬ (3000:Int)<(s.size:Int):=by omega
 have g2:¬ n<0:=by omega
 have KR:=fun W hW=>run_b V s W hW hs
 have KU:=fun k W hW hk=>run_b V (s.extract 0 k) W hW hk
 clear h1 h2
 go_enter Tryz.func3,Tryz.ntmps3
 go_upto_block 0 with (go_at_call 4;refine KF.mono ?_;clear KF;rintro e w1 ⟨rfl,hb1⟩)
 go_cut [1,6] from 19 to 34 (fun a c wy=>∃ (k:Nat) (m:Int),a=.int .i64 m/\c=.int .i64 k/\k<=s.size/\0<=m/\(m=0->Nd (s.data.toList.take k))/\(m≠0->k=s.size)/\wy=w1)
 case rest=>
  obtain⟨k,m,rfl,rfl,hk,hm,q1,q2,rfl⟩:=hcut
  have R1:=R.step hb1
  have hkI:(k:Int)<=(s.size:Int):=by omega
  have es:(s.extract 0 k).size<=3000:=by simp only [ByteArray.size_extract];omega
  have KU1:=fun W hW=>KU k W hW es
  clear KU es g1 g2
  by_cases p:0<m
  ·obtain rfl:k=s.size:=q2 (by omega)
   rw[rb_all] at KU1
   generalize rb s=tb at *
   clear q1 q2 hkI
   go_wp2_with (first
    | (go_at_call_of 4 (Value.string s);refine (KR _ R1).mono ?_;rintro e w2 ⟨rfl,hb2⟩;replace hb1:=below_via hb1 hb2;replace R1:=R1.step hb2;clear hb2)
    | (go_at_call 4;refine (KU1 _ R1).mono ?_;clear KU1;rintro e w3 ⟨rfl,hb3⟩;replace hb1:=below_via hb1 hb3))
   go_ret
   exact⟨by simp,hb1⟩
  ·obtain rfl:m=0:=by omega
   obtain⟨h3,h4⟩:=rb_begins s k (q1 rfl)
   generalize rb s=tb at *
   generalize rb (s.extract 0 k)=ub at *
   have h5:(ub.size:Int)<=(tb.size:Int):=by omega
   clear q1 q2
   go_wp2_with (first
    | (go_at_call_of 4 (Value.string s);refine (KR _ R1).mono ?_;clear KR;rintro e w2 ⟨rfl,hb2⟩;replace hb1:=below_via hb1 hb2;replace R1:=R1.step hb2;clear hb2)
    | (go_at_call 4;refine (KU1 _ R1).mono ?_;clear KU1;rintro e w3 ⟨rfl,hb3⟩;replace hb1:=below_via hb1 hb3))
   go_ret
   exact⟨by simp,hb1⟩
 case first=>
  clear KR KU
  go_wp2_with fail
  go_loopw [1,6] (fun a c wr=>∃ (k:Nat) (m:Int),a=.int .i64 m/\c=.int .i64 k/\k<=s.size/\0<=m/\m<=n/\(m=0->Nd (s.data.toList.take k))/\wr=w1) (fun _ i _=>s.size - (intOf i).toNat)
  case atStart=>exact⟨0,n,rfl,rfl,Nat.zero_le _,hn0,Int.le_refl _,fun _=>Nd.zero _,rfl⟩
  case round=>
   obtain⟨k,m,rfl,rfl,hk,hm0,hmn,hd,rfl⟩:=hrel
   have HD:Hid _:=hd
   clear hd
   by_cases p:0<m
   ·by_cases q:k<s.size
    ·have q1:(k:Int)<(s.size:Int):=by omega
     have hk256:s[k].toNat<256:=s[k].toNat_lt
     cases h3:((s[k].toNat:Int)==10)
     ·go_wp2
      exact⟨⟨k+1,m,rfl,by go_num,by omega,by omega,hmn,fun e=>absurd e (by omega),trivial⟩,by simp[intOf];omega⟩
     ·have hc:s[k]=10:=by apply UInt8.toNat_inj.1;simp at h3;show s[k].toNat=10;omega
      have H10:Hid (s.data.toList[k]? = some 10):=nl_at q hc
      clear hc
      go_wp2
      exact⟨⟨k+1,m - 1,by go_num,by go_num,by omega,by omega,by omega,fun _=>Nd.step H10.out,trivial⟩,by simp[intOf];omega⟩
    ·have q1:¬ (k:Int)<(s.size:Int):=by omega
     go_wp2
     go_meet
     case rel=>exact⟨k,m,rfl,rfl,hk,hm0,HD.out,fun _=>by omega,rfl⟩
   ·obtain rfl:m=0:=by omega
    go_wp2
    go_meet
    case rel=>exact⟨k,0,rfl,rfl,hk,Int.le_refl _,fun _=>HD.out trivial,fun z=>absurd rfl z,rfl⟩
end
end Go.Proofs.YtcjdoeclblhaeaaGreatDoor.Rn
