/- -/
import Derived.Test.YtcjdoeclblhaeaaGreatDoorRAdMath
import Derived.Lib.TrailingZeros
namespace Bur
open Go
theorem pw_pos (k:Nat):(0:Int)<2 ^ k:=Int.pow_pos (by decide)
theorem pw_succ (k:Nat):(2:Int) ^ (k+1)=2*2 ^ k:=by rw[Int.pow_succ];omega
theorem pw_dvd {j k:Nat} (h:j<=k):(2:Int) ^ j∣2 ^ k:=⟨2 ^ (k - j),by rw[<- Int.pow_add];congr 1;omega⟩
theorem pw_le {j k:Nat} (h:j<=k):(2:Int) ^ j<=2 ^ k:=Int.le_of_dvd (pw_pos k) (pw_dvd h)
theorem apart {m x y:Int} (hm:0<m) (hx:m∣x) (hy:m∣y) (h:x<y):x+m<=y:=by
 obtain⟨p,rfl⟩:=hx
 obtain⟨q,rfl⟩:=hy
 have hpq:p<q:=Int.lt_of_mul_lt_mul_left h (Int.le_of_lt hm)
 have:=Int.mul_le_mul_of_nonneg_left (show p+1<=q by omega) (Int.le_of_lt hm)
 rw[Int.mul_add] at this
 omega
def fr (lo hi:Int):Nat:=min (Lib.ctz 64 lo.toNat) (Lib.bitLen (hi - lo+1).toNat - 1)
theorem ctz_iff (x j:Nat) (h0:0<x) (h1:x<2 ^ 64):2 ^ j∣x↔j<=Lib.ctz 64 x:=by
 unfold Lib.ctz
 rw[if_neg (by omega)]
 obtain⟨m,hm,hk⟩:=Lib.ctzFrom_spec 64 x h0 h1
 generalize Lib.ctzFrom 64 x=k at hm hk
 constructor
 ·intro h
  apply Nat.le_of_not_lt
  intro hlt
  have h2:2 ^ (k+1)∣x:=Nat.dvd_trans (Nat.pow_dvd_pow 2 hlt) h
  rw[hm,Nat.pow_succ] at h2
  have:=Nat.dvd_of_mul_dvd_mul_left (Nat.pow_pos (by decide)) h2
  omega
 ·intro h
  rw[hm]
  exact Nat.dvd_trans (Nat.pow_dvd_pow 2 h) (Nat.dvd_mul_right _ _)
theorem fr_spec {lo hi:Int} (h0:0<=lo) (h1:lo<=hi) (h2:hi<=4294967295) :
  (2:Int) ^ fr lo hi∣lo/\lo+2 ^ fr lo hi<=hi+1/\(∀ j:Nat,(2:Int) ^ j∣lo->lo+2 ^ j<=hi+1->j<=fr lo hi)/\fr lo hi<=32:=by
 obtain⟨x,rfl⟩:=Int.eq_ofNat_of_zero_le h0
 obtain⟨n,hn⟩:∃ n:Nat,(n:Int)=hi - x+1:=⟨(hi - x+1).toNat,by omega⟩
 have hn1:0<n:=by omega
 have hn2:n<=4294967296:=by omega
 have e1:(hi - (x:Int)+1).toNat=n:=by omega
 have fill:∀ j:Nat,j<=Lib.bitLen n - 1↔2 ^ j<=n:=by
  intro j
  have ha:=bitLen_le_iff n j (by omega)
  have hb:=bitLen_le_iff n 0 (by omega)
  constructor
  ·intro h
   apply Nat.le_of_not_lt
   intro hlt
   have:=ha.2 hlt
   have hz:¬ Lib.bitLen n<=0:=fun hh=>by have:=hb.1 hh;simp at this;omega
   omega
  ·intro h
   have:¬ Lib.bitLen n<=j:=fun hh=>by have:=ha.1 hh;omega
   omega
 have dv:∀ j:Nat,((2:Int) ^ j∣(x:Int))↔2 ^ j∣x:=by
  intro j
  rw[<- Int.natCast_dvd_natCast];simp
 have pc:∀ j:Nat,((2:Int) ^ j)=((2 ^ j:Nat):Int):=fun j=>by simp
 have key:∀ j:Nat,2 ^ j<=n->(2 ^ j∣x↔j<=Lib.ctz 64 x):=by
  intro j hj
  by_cases hx:x=0
  ·subst hx
   have:j<64:=by
    apply Nat.lt_of_not_le
    intro hh
    have:=Nat.pow_le_pow_right (n:=2) (by decide) hh
    have h64:(2:Nat) ^ 64=18446744073709551616:=by decide
    omega
   simp[Lib.ctz];omega
  ·exact ctz_iff x j (by omega) (by omega)
 have hfr:fr (x:Int) hi=min (Lib.ctz 64 x) (Lib.bitLen n - 1):=by unfold fr;rw[e1];simp
 have hf:2 ^ fr (x:Int) hi<=n:=(fill _).1 (by rw[hfr];omega)
 refine⟨(dv _).2 ((key _ hf).2 (by rw[hfr];omega)),by rw[pc];omega,fun j hd hj=>?_,?_⟩
 ·rw[pc] at hj
  have hj':2 ^ j<=n:=by omega
  have a1:=(key j hj').1 ((dv j).1 hd)
  have a2:=(fill j).2 hj'
  rw[hfr];omega
 ·apply Nat.le_of_not_lt
  intro hh
  have:=Nat.pow_le_pow_right (n:=2) (by decide) hh
  have h33:(2:Nat) ^ 33=8589934592:=by decide
  have e:Nat.succ 32=33:=rfl
  rw[e] at this
  omega
def gr:Nat->Int->Int->List Sp
 | 0,_,_=>[]
 | n+1,lo,hi=>if lo<=hi then (lo,32 - (fr lo hi:Int)) :: gr n (lo+2 ^ fr lo hi) hi else []
theorem gr_fuel:∀ (n m:Nat) (lo hi:Int),hi - lo+1<=n->hi - lo+1<=m->gr n lo hi=gr m lo hi
 | 0,0,_,_,_,_=>rfl
 | 0,m+1,lo,hi,h,_=>by rw[gr,gr,if_neg (by omega)]
 | n+1,0,lo,hi,_,h=>by rw[gr,gr,if_neg (by omega)]
 | n+1,m+1,lo,hi,h1,h2=>by
  have:=pw_pos (fr lo hi)
  rw[gr,gr,gr_fuel n m _ _ (by omega) (by omega)]
def cov (lo hi:Int):List Sp:=gr (hi - lo+1).toNat lo hi
theorem cov_no {lo hi:Int} (h:hi<lo):cov lo hi=[]:=by
 unfold cov
 rw[show (hi - lo+1).toNat=0 from by omega];rfl
theorem cov_yes {lo hi:Int} (h:lo<=hi):cov lo hi=(lo,32 - (fr lo hi:Int)) :: cov (lo+2 ^ fr lo hi) hi:=by
 have hp:=pw_pos (fr lo hi)
 unfold cov
 obtain⟨n,hn⟩:∃ n,(hi - lo+1).toNat=n+1:=⟨(hi - lo).toNat,by omega⟩
 rw[hn,gr,if_pos h,gr_fuel n (hi - (lo+2 ^ fr lo hi)+1).toNat _ _ (by omega) (by omega)]
def hv:Nat->Int->Int->Int->List Sp
 | 0,a,lo,hi=>if hi<a \/ a<lo then [] else [(a,32)]
 | k+1,a,lo,hi=>if hi<a \/ a+2 ^ (k+1) - 1<lo then [] else if lo<=a/\a+2 ^ (k+1) - 1<=hi then [(a,32 - ((k+1:Nat):Int))] else hv k a lo hi++hv k (a+2 ^ k) lo hi
end Bur
namespace Bur
open Go
theorem sz_pw {k:Nat} (h:k<=32):sz (32 - (k:Int))=2 ^ k:=by
 unfold sz
 rw[show (32 - (32 - (k:Int))).toNat=k from by omega]
theorem pw_sz (l:Int):sz l=2 ^ (32 - l).toNat:=rfl
def pnF:List Sp->Int
 | []=>0
 | p :: r=>if fault p.1 p.2=0 then pnF r else fault p.1 p.2
def OkP (p:Sp):Prop:=fault p.1 p.2=0
theorem pnF_ok:∀ {l:List Sp},pnF l=0 -> ∀ p∈l,OkP p
 | [],_,_,h=>by cases h
 | p :: r,e,q,hq=>by
  unfold pnF at e
  split at e
  ·rename_i h1
   rcases List.mem_cons.1 hq with rfl|hq
   ·exact h1
   ·exact pnF_ok e q hq
  ·contradiction
theorem pnF_mk:∀ {l:List Sp},(∀ p∈l,OkP p)->pnF l=0
 | [],_=>rfl
 | p :: r,h=>by
  unfold pnF
  rw[if_pos (show fault p.1 p.2=0 from h p (by simp))]
  exact pnF_mk (fun q hq=>h q (by simp[hq]))
def pS (p:Sp):Sp:=(p.1,p.1+(sz p.2 - 1))
def pfS (l:List Sp):List Sp:=l.map pS
theorem OkP.parts {p:Sp} (h:OkP p):0<=p.2/\p.2<=32/\0<=p.1/\p.1+(sz p.2 - 1)<=4294967295/\sz p.2∣p.1:=by
 obtain⟨a,b,c,d,e⟩:=fault_ok h
 exact⟨a,b,c,last_le a b c d e,Int.dvd_of_emod_eq_zero e⟩
theorem okP_mk {a:Int} {k:Nat} (hk:k<=32) (h0:0<=a) (h1:a<=4294967295) (hd:(2:Int) ^ k∣a):OkP (a,32 - (k:Int)):=by
 refine fault_mk (by show (0:Int)<=32 - k;omega) (by show (32:Int) - k<=32;omega) (isA_mk h0 h1) ?_
 show a % sz (32 - (k:Int))=0
 rw[sz_pw hk]
 exact Int.emod_eq_zero_of_dvd hd
theorem pfS_inA {l:List Sp} (h:∀ p∈l,OkP p):InA (pfS l):=by
 intro s hs
 obtain⟨p,hp,rfl⟩:=List.mem_map.1 hs
 obtain⟨a,b,c,d,e⟩:=(h p hp).parts
 have:=sz_pos p.2
 exact⟨c,by show p.1<=p.1+(sz p.2 - 1);omega,d⟩
def Tile:Int->List Sp->Int->Prop
 | lo,[],hi=>lo=hi+1
 | lo,p :: r,hi=>p.1=lo/\OkP p/\Tile (lo+sz p.2) r hi
theorem cov_tile {hi:Int} (h2:hi<=4294967295):∀ (n:Nat) (lo:Int),(hi - lo+1).toNat<=n->0<=lo->lo<=hi+1->Tile lo (cov lo hi) hi
 | n,lo,hn,h0,h1=>by
  by_cases hle:lo<=hi
  ·obtain⟨a,b,c,d⟩:=fr_spec h0 hle h2
   have hp:=pw_pos (fr lo hi)
   rw[cov_yes hle]
   refine⟨rfl,okP_mk d h0 (by omega) a,?_⟩
   show Tile (lo+sz (32 - (fr lo hi:Int))) _ hi
   rw[sz_pw d]
   match n with
   | 0=>omega
   | n+1=>exact cov_tile h2 n _ (by omega) (by omega) (by omega)
  ·rw[cov_no (by omega)]
   show lo=hi+1
   omega
theorem Tile.mem:∀ {l:List Sp} {lo hi:Int},Tile lo l hi->lo<=hi+1 -> ∀ x:Int,Bur.mem (pfS l) x=(decide (lo<=x)&&decide (x<=hi))
 | [],lo,hi,h,_,x=>by
  have h:lo=hi+1:=h
  show false=_
  by_cases hx:lo<=x
  ·rw[show decide (x<=hi)=false from by simp;omega];simp
  ·rw[show decide (lo<=x)=false from by simp;omega];simp
 | p :: r,lo,hi,⟨h1,h2,h3⟩,hle,x=>by
  obtain⟨a,b,c,d,e⟩:=h2.parts
  have hp:=sz_pos p.2
  have hend:∀ {l:List Sp} {lo hi:Int},Tile lo l hi->lo<=hi+1:=by
   intro l
   induction l with
   | nil=>intro lo hi h;have h:lo=hi+1:=h;omega
   | cons q s ih=>
    intro lo hi h
    have:=ih h.2.2
    have:=sz_pos q.2
    omega
  have ih:=Tile.mem h3 (hend h3) x
  have:=hend h3
  show Bur.mem (pS p :: pfS r) x=_
  rw[mem_cons,ih,Bool.eq_iff_iff]
  simp only [Bool.or_eq_true,Bool.and_eq_true,decide_eq_true_eq]
  show (p.1<=x/\x<=p.1+(sz p.2 - 1)) \/ (lo+sz p.2<=x/\x<=hi)↔lo<=x/\x<=hi
  constructor
  ·rintro (⟨g1,g2⟩|⟨g1,g2⟩)
   ·exact⟨by omega,by omega⟩
   ·exact⟨by omega,g2⟩
  ·rintro ⟨g1,g2⟩
   by_cases g:x<=p.1+(sz p.2 - 1)
   ·exact .inl ⟨by omega,g⟩
   ·exact .inr ⟨by omega,g2⟩
theorem Tile.ok:∀ {l:List Sp} {lo hi:Int},Tile lo l hi -> ∀ p∈l,OkP p
 | q :: r,lo,hi,⟨_,h2,h3⟩,p,hp=>by
  rcases List.mem_cons.1 hp with rfl|hp
  ·exact h2
  ·exact Tile.ok h3 p hp
theorem Tile.rise:∀ {l:List Sp} {lo hi:Int},Tile lo l hi->(l.map (·.1)).Pairwise (· < ·) /\ ∀ x∈l.map (·.1),lo<=x
 | [],_,_,_=>by simp
 | p :: r,lo,hi,⟨h1,h2,h3⟩=>by
  obtain⟨g1,g2⟩:=Tile.rise h3
  have hp:=sz_pos p.2
  refine⟨?_,?_⟩
  ·rw[List.map_cons,List.pairwise_cons]
   exact⟨fun x hx=>by have:=g2 x hx;omega,g1⟩
  ·intro x hx
   rw[List.map_cons,List.mem_cons] at hx
   rcases hx with rfl|hx
   ·omega
   ·have:=g2 x hx;omega
theorem cov_first {hi:Int} (h2:hi<=4294967295):∀ (n:Nat) (lo:Int),(hi - lo+1).toNat<=n->0<=lo -> ∀ p∈cov lo hi,∀ (y:Int) (j:Nat),(2:Int) ^ j∣y->lo<=y->y+2 ^ j<=hi+1->y<=p.1->p.1<y+2 ^ j->y=p.1
 | n,lo,hn,h0,p,hp,y,j,hd,g1,g2,g3,g4=>by
  have hj:=pw_pos j
  have hle:lo<=hi:=by omega
  obtain⟨a,b,c,d⟩:=fr_spec h0 hle h2
  have hpp:=pw_pos (fr lo hi)
  rw[cov_yes hle] at hp
  rcases List.mem_cons.1 hp with rfl|hp
  ·show y=lo
   have:y<=lo:=g3
   omega
  ·by_cases hy:lo+2 ^ fr lo hi<=y
   ·match n with
    | 0=>omega
    | n+1=>exact cov_first h2 n _ (by omega) (by omega) p hp y j hd hy g2 g3 g4
   ·exfalso
    have hle3:lo+2 ^ fr lo hi<=hi+1:=b
    have hpx:=(Tile.rise (cov_tile h2 _ _ (Nat.le_refl _) (by omega) hle3)).2 p.1 (List.mem_map_of_mem hp)
    rcases Nat.lt_or_ge (fr lo hi) j with hk|hk
    ·have hdl:(2:Int) ^ fr lo hi∣y:=Int.dvd_trans (pw_dvd (Nat.le_of_lt hk)) hd
     have:y=lo:=by
      rcases Int.lt_or_eq_of_le g1 with g|g
      ·have:=apart hpp a hdl g;omega
      ·exact g.symm
     subst this
     have:=c j hd g2
     omega
    ·have hdl:(2:Int) ^ j∣lo+2 ^ fr lo hi:=Int.dvd_add (Int.dvd_trans (pw_dvd hk) a) (pw_dvd hk)
     have:=apart hj hd hdl (by omega)
     omega
def cvs (l:List Sp):List Sp:=l.flatMap fun s=>cov s.1 s.2
theorem cvs_cons (s:Sp) (r:List Sp):cvs (s :: r)=cov s.1 s.2++cvs r:=rfl
theorem cvs_ok {l:List Sp} (h:InA l):∀ p∈cvs l,OkP p:=by
 intro p hp
 obtain⟨s,hs,hp⟩:=List.mem_flatMap.1 hp
 have:=h s hs
 exact (cov_tile this.2.2 _ _ (Nat.le_refl _) this.1 (by omega)).ok p hp
theorem cvs_mem:∀ {l:List Sp},InA l -> ∀ x,mem (pfS (cvs l)) x=mem l x
 | [],_,_=>rfl
 | s :: r,h,x=>by
  have hs:=h s (by simp)
  rw[cvs_cons,show pfS (cov s.1 s.2++cvs r)=pfS (cov s.1 s.2)++pfS (cvs r) from by simp[pfS],mem_append,cvs_mem (fun t ht=>h t (by simp[ht])) x,(cov_tile hs.2.2 _ _ (Nat.le_refl _) hs.1 (by omega)).mem (by omega),mem_cons]
theorem cvs_rise:∀ {l:List Sp} {h:Int},IsS h l->InA l->((cvs l).map (·.1)).Pairwise (· < ·) /\ ∀ x∈(cvs l).map (·.1),h+1<x
 | [],_,_,_=>by simp[cvs]
 | s :: r,h,⟨a,b,c⟩,hA=>by
  have hs:=hA s (by simp)
  obtain⟨g1,g2⟩:=cvs_rise c (fun t ht=>hA t (by simp[ht]))
  have t:=cov_tile hs.2.2 _ _ (Nat.le_refl _) hs.1 (by omega)
  obtain⟨r1,r2⟩:=t.rise
  have hi:∀ x∈(cov s.1 s.2).map (·.1),x<=s.2:=by
   intro x hx
   obtain⟨p,hp,rfl⟩:=List.mem_map.1 hx
   have hm:mem (pfS (cov s.1 s.2)) p.1=true:=(mem_iff _ _).2 ⟨pS p,List.mem_map_of_mem hp,by show p.1<=p.1;omega,by show p.1<=p.1+(sz p.2 - 1);have:=sz_pos p.2;omega⟩
   rw[t.mem (by omega)] at hm
   simp at hm
   exact hm.2
  rw[cvs_cons,List.map_append]
  refine⟨List.pairwise_append.2 ⟨r1,g1,fun x hx y hy=>by have:=hi x hx;have:=g2 y hy;omega⟩,fun x hx=>?_⟩
  rcases List.mem_append.1 hx with hx|hx
  ·have:=r2 x hx;omega
  ·have:=g2 x hx;omega
theorem IsS.one {l:List Sp} {h:Int} (hs:IsS h l) {y z:Int} (hm:∀ x,y<=x->x<=z->mem l x=true) {s:Sp} (h1:s∈l) {x:Int} (hx1:s.1<=x) (hx2:x<=s.2) (g1:y<=x) (g2:x<=z):s.1<=y/\z<=s.2:=by
 have behind:∀ {l:List Sp} {h:Int},IsS h l -> ∀ s∈l,mem l (s.2+1)=false:=by
  intro l
  induction l with
  | nil=>intro h _ s hs;cases hs
  | cons t r ih=>
   rintro h ⟨a,b,c⟩ s hs
   rw[mem_cons]
   rcases List.mem_cons.1 hs with rfl|hs
   ·rw[c.out (x:=s.2+1) (by omega),show decide (s.2+1<=s.2)=false from by simp;omega];simp
   ·have h1:=(IsS.lows c).2 s.1 (List.mem_map_of_mem hs)
    have h2:=c.le s hs
    rw[ih c s hs,show decide (s.2+1<=t.2)=false from by simp;omega];simp
 constructor
 ·apply Int.not_lt.1
  intro hlt
  have:=hm (s.1 - 1) (by omega) (by omega)
  rw[hs.ahead s h1] at this;cases this
 ·apply Int.not_lt.1
  intro hlt
  have:=hm (s.2+1) (by omega) (by omega)
  rw[behind hs s h1] at this;cases this
theorem cvs_few {l m:List Sp} {h:Int} (hs:IsS h l) (hA:InA l) (hm:∀ p∈m,OkP p) (e:∀ x,mem (pfS m) x=mem l x):(cvs l).length<=m.length:=by
 have:=len_le ((cvs l).map (·.1)) (m.map (·.1)) (cvs_rise hs hA).1 (fun x hx=>by
  obtain⟨p,hp,rfl⟩:=List.mem_map.1 hx
  obtain⟨s,hs1,hp⟩:=List.mem_flatMap.1 hp
  have hb:=hA s hs1
  have t:=cov_tile hb.2.2 _ _ (Nat.le_refl _) hb.1 (by omega)
  have hin:s.1<=p.1/\p.1<=s.2:=by
   have hm:mem (pfS (cov s.1 s.2)) p.1=true:=(mem_iff _ _).2 ⟨pS p,List.mem_map_of_mem hp,by show p.1<=p.1;omega,by show p.1<=p.1+(sz p.2 - 1);have:=sz_pos p.2;omega⟩
   rw[t.mem (by omega)] at hm
   simpa using hm
  have hml:mem l p.1=true:=(mem_iff _ _).2 ⟨s,hs1,hin⟩
  rw[<- e] at hml
  obtain⟨u,hu,g1,g2⟩:=(mem_iff _ _).1 hml
  obtain⟨q,hq,rfl⟩:=List.mem_map.1 hu
  obtain⟨q1,q2,q3,q4,q5⟩:=(hm q hq).parts
  have hq0:=sz_pos q.2
  have g1':q.1<=p.1:=g1
  have g2':p.1<=q.1+(sz q.2 - 1):=g2
  have hone:=hs.one (y:=q.1) (z:=q.1+(sz q.2 - 1)) (fun x h1 h2=>by
   rw[<- e]
   exact (mem_iff _ _).2 ⟨pS q,List.mem_map_of_mem hq,h1,h2⟩) hs1 hin.1 hin.2 g1' g2'
  have:=cov_first hb.2.2 _ _ (Nat.le_refl _) hb.1 p hp q.1 (32 - q.2).toNat q5 hone.1 (by rw[<- pw_sz q.2];omega) g1' (by rw[<- pw_sz q.2];omega)
  rw[<- this]
  exact List.mem_map_of_mem hq)
 simpa using this
def psF (l:List Sp):Int:=if 200<l.length then 3 else if pnF l=0 then (if 64<(mk (pfS l)).length then 3 else 0) else pnF l
def psS (l:List Sp):List Sp:=if psF l=0 then mk (pfS l) else []
theorem psF_ok {l:List Sp} (h:psF l=0):l.length<=200/\(∀ p∈l,OkP p)/\(mk (pfS l)).length<=64:=by
 unfold psF at h
 split at h
 ·omega
 ·split at h
  ·rename_i h1
   split at h
   ·omega
   ·exact⟨by omega,pnF_ok h1,by omega⟩
  ·contradiction
theorem psF_mk {l:List Sp} (h:l.length<=200) (h1:∀ p∈l,OkP p) (h2:(mk (pfS l)).length<=64):psF l=0:=by
 unfold psF
 rw[if_neg (by omega),if_pos (pnF_mk h1),if_neg (by omega)]
def cvF (l:List Sp):Int:=if setF l=0 then (if 200<(cvs l).length then 3 else 0) else setF l
def cvS (l:List Sp):List Sp:=if cvF l=0 then cvs l else []
def fwF (l:List Sp):Int:=if psF l=0 then cvF (psS l) else psF l
def fwS (l:List Sp):List Sp:=if psF l=0 then cvS (psS l) else []
theorem ps_set {l:List Sp} (h:psF l=0):setF (psS l)=0 /\ ∀ x,mem (psS l) x=mem (pfS l) x:=by
 obtain⟨a,b,c⟩:=psF_ok h
 have e:psS l=mk (pfS l):=if_pos h
 obtain⟨m1,m2,m3,m4⟩:=mk_set (pfS_inA b)
 rw[e]
 exact⟨setF_mk c m1 m3,m2⟩
theorem few {l:List Sp} (h:fwF l=0):psF l=0/\psF (fwS l)=0/\psS (fwS l)=psS l/\fwF (fwS l)=0/\fwS (fwS l)=fwS l/\(fwS l).length<=l.length:=by
 have h0:psF l=0:=by
  unfold fwF at h
  split at h
  ·assumption
  ·contradiction
 obtain⟨s1,s2⟩:=ps_set h0
 obtain⟨t1,t2,t3⟩:=setF_ok s1
 obtain⟨a,b,c⟩:=psF_ok h0
 have hc:cvF (psS l)=0:=by unfold fwF at h;rw[if_pos h0] at h;exact h
 have e1:fwS l=cvs (psS l):=by unfold fwS cvS;rw[if_pos h0,if_pos hc]
 have hlen:(cvs (psS l)).length<=200:=by
  unfold cvF at hc
  rw[if_pos s1] at hc
  split at hc
  ·omega
  ·omega
 have hok:=cvs_ok t3
 have hset:mk (pfS (cvs (psS l)))=psS l:=by
  obtain⟨m1,m2,m3,m4⟩:=mk_set (pfS_inA hok)
  exact m1.uniq t2 (fun x=>by rw[m2,cvs_mem t3])
 have p1:psF (cvs (psS l))=0:=psF_mk hlen hok (by rw[hset];exact t1)
 have p2:psS (cvs (psS l))=psS l:=by
  show (if psF (cvs (psS l))=0 then mk (pfS (cvs (psS l))) else [])=_
  rw[if_pos p1,hset]
 have p3:fwF (cvs (psS l))=0:=by unfold fwF;rw[if_pos p1,p2];exact hc
 have p4:fwS (cvs (psS l))=cvs (psS l):=by
  show (if psF (cvs (psS l))=0 then cvS (psS (cvs (psS l))) else [])=_
  rw[if_pos p1,p2];unfold cvS;rw[if_pos hc]
 rw[e1]
 exact⟨h0,p1,p2,p3,p4,cvs_few t2 t3 b (fun x=>(s2 x).symm)⟩
end Bur
namespace Bur
open Go
def inP (p q:Sp):Bool:=inB p.1 p.2 q.1 q.2
theorem inP_iff (p q:Sp):inP p q=true↔q.1<=p.1/\p.1+sz p.2<=q.1+sz q.2:=by simp[inP,inB]
def ahd (p q:Sp):Bool:=decide (p.1<q.1) || (decide (p.1=q.1)&&decide (p.2<q.2))
def okc:Option Sp->Sp->Bool
 | none,_=>true
 | some q,p=>ahd q p
def sm (p q:Sp):Bool:=p.1==q.1&&p.2==q.2
theorem sm_iff (p q:Sp):sm p q=true↔p=q:=by
 simp[sm,Prod.ext_iff]
theorem sm_self (p:Sp):sm p p=true:=(sm_iff p p).2 rfl
def hasP (p:Sp) (l:List Sp):Bool:=l.any fun q=>sm q p
def hs (q:Sp) (a:Int):Bool:=decide (q.1<=a)&&decide (a<=q.1+sz q.2 - 1)
def hid (l:List Sp) (p:Sp) (all:Bool) (q:Sp):Bool:=l.any fun k => !sm k q&&inP q k&&(all || (!sm k p&&inP k p))
end Bur
namespace Bur
open Go
theorem sm_comm (p q:Sp):sm p q=sm q p:=by
 rw[Bool.eq_iff_iff,sm_iff,sm_iff]
 exact⟨Eq.symm,Eq.symm⟩
end Bur
namespace Bur
open Go
def mts (p q:Sp):Bool:=decide (p.1<=q.1+sz q.2 - 1)&&decide (q.1<=p.1+sz p.2 - 1)
theorem mts_iff (p q:Sp):mts p q=true↔p.1<=q.1+sz q.2 - 1/\q.1<=p.1+sz p.2 - 1:=by simp[mts]
def pk (k:Nat) (a:Int):Sp:=(a,32 - (k:Int))
def OkK (k:Nat) (a:Int):Prop:=k<=32/\0<=a/\a+2 ^ k<=4294967296/\(2:Int) ^ k∣a
theorem OkK.ok {k:Nat} {a:Int} (h:OkK k a):OkP (pk k a):=okP_mk h.1 h.2.1 (by have:=pw_pos k;have:=h.2.2.1;omega) h.2.2.2
theorem OkK.sz {k:Nat} {a:Int} (h:OkK k a):sz (pk k a).2=2 ^ k:=sz_pw h.1
theorem OkP.okK {p:Sp} (h:OkP p):OkK (32 - p.2).toNat p.1/\p=pk (32 - p.2).toNat p.1:=by
 obtain⟨a,b,c,d,e⟩:=h.parts
 refine⟨⟨by omega,c,?_,?_⟩,Prod.ext rfl (by simp only [pk];omega)⟩
 ·have:Bur.sz p.2=2 ^ (32 - p.2).toNat:=rfl
  omega
 ·exact e
theorem OkK.low {k:Nat} {a:Int} (h:OkK (k+1) a):OkK k a:=by
 have:=pw_succ k
 have:=pw_pos k
 exact⟨by have:=h.1;omega,h.2.1,by have:=h.2.2.1;omega,Int.dvd_trans (pw_dvd (by omega)) h.2.2.2⟩
theorem OkK.high {k:Nat} {a:Int} (h:OkK (k+1) a):OkK k (a+2 ^ k):=by
 have:=pw_succ k
 have:=pw_pos k
 exact⟨by have:=h.1;omega,by have:=h.2.1;omega,by have:=h.2.2.1;omega,Int.dvd_add (Int.dvd_trans (pw_dvd (by omega)) h.2.2.2) (Int.dvd_refl _)⟩
theorem OkK.in_iff {k:Nat} {a:Int} (h:OkK k a) (q:Sp):inP (pk k a) q=true↔q.1<=a/\a+2 ^ k<=q.1+Bur.sz q.2:=by
 rw[inP_iff,h.sz];rfl
theorem OkK.mts_iff {k:Nat} {a:Int} (h:OkK k a) (q:Sp):mts (pk k a) q=true↔a<=q.1+Bur.sz q.2 - 1/\q.1<=a+2 ^ k - 1:=by
 rw[Bur.mts_iff,h.sz];rfl
def stt (l:List Sp) (k:Nat) (a:Int):Int:=if l.any (fun q=>inP (pk k a) q)=true then 1 else if l.any (fun q=>mts (pk k a) q)=true then 2 else 0
theorem stt_cases (l:List Sp) (k:Nat) (a:Int):(stt l k a=1/\l.any (fun q=>inP (pk k a) q)=true) \/ (stt l k a=2/\l.any (fun q=>inP (pk k a) q)=false/\l.any (fun q=>mts (pk k a) q)=true) \/ (stt l k a=0/\l.any (fun q=>inP (pk k a) q)=false/\l.any (fun q=>mts (pk k a) q)=false):=by
 unfold stt
 cases h1:l.any (fun q=>inP (pk k a) q) with
 | true=>exact .inl ⟨rfl,rfl⟩
 | false=>
  cases h2:l.any (fun q=>mts (pk k a) q) with
  | true=>exact .inr (.inl ⟨rfl,rfl,rfl⟩)
  | false=>exact .inr (.inr ⟨rfl,rfl,rfl⟩)
theorem tk_iff (l:List Sp) (x:Int):mem (pfS l) x=true ↔ ∃ q∈l,q.1<=x/\x<=q.1+(sz q.2 - 1):=by
 rw[mem_iff]
 constructor
 ·rintro ⟨s,hs,h⟩
  obtain⟨q,hq,rfl⟩:=List.mem_map.1 hs
  exact⟨q,hq,h⟩
 ·rintro ⟨q,hq,h⟩
  exact⟨pS q,List.mem_map.2 ⟨q,hq,rfl⟩,h⟩
def blk (l:List Sp):Nat->Int->List Sp
 | 0,a=>if stt l 0 a=0 then [pk 0 a] else []
 | k+1,a=>if stt l (k+1) a=0 then [pk (k+1) a] else if stt l (k+1) a=1 then [] else blk l k a++blk l k (a+2 ^ k)
def gps (p:Sp) (l:List Sp):List Sp:=two 3 [pS p] (pfS l)
theorem gps_set {p:Sp} {l:List Sp} (hp:OkP p) (hl:∀ q∈l,OkP q):IsS (-2) (gps p l)/\InA (gps p l) /\ ∀ x,mem (gps p l) x=(decide (p.1<=x)&&decide (x<=p.1+(sz p.2 - 1)) && !mem (pfS l) x):=by
 have h1:InA [pS p]:=by
  intro s hs
  rw[List.mem_singleton] at hs
  subst hs
  obtain⟨a,b,c,d,e⟩:=hp.parts
  have:=sz_pos p.2
  exact⟨c,by simp only [pS];omega,d⟩
 have h2:=pfS_inA hl
 obtain⟨g1,g2⟩:=two_set 3 h1 h2
 refine⟨g1,two_inA 3 h1 h2,fun x=>?_⟩
 show mem (two 3 [pS p] (pfS l)) x=_
 have hk:∀ x y:Bool,kp 3 x y=(x && !y):=by intro x y;cases x <;> cases y <;> rfl
 rw[g2,mem_cons,mem_nil,Bool.or_false,hk]
 rfl
end Bur
namespace Bur
open Go
def slt (j:Nat):Nat->Int->List Sp
 | 0,a=>[pk j a]
 | d+1,a=>slt j d a++slt j d (a+2 ^ (j+d))
def fre (l:List Sp) (s:Sp):Bool := !l.any fun q=>mts s q
theorem fre_iff (l:List Sp) (s:Sp):fre l s=true ↔ ∀ q∈l,mts s q=false:=by
 simp[fre]
theorem slt_len (j:Nat):∀ (d:Nat) (a:Int),(slt j d a).length=2 ^ d
 | 0,_=>rfl
 | d+1,a=>by rw[slt,List.length_append,slt_len j d,slt_len j d,Nat.pow_succ];omega
theorem slt_mem (j:Nat):∀ (d:Nat) (a:Int),OkK (j+d) a -> ∀ s∈slt j d a,∃ b,s=pk j b/\OkK j b/\a<=b/\b+2 ^ j<=a+2 ^ (j+d)
 | 0,a,ok,s,hs=>by
  rw[slt,List.mem_singleton] at hs
  exact⟨a,hs,ok,Int.le_refl _,Int.le_refl _⟩
 | d+1,a,ok,s,hs=>by
  have e1:=pw_succ (j+d)
  have e2:=pw_pos (j+d)
  have ok':OkK (j+d+1) a:=ok
  rw[slt,List.mem_append] at hs
  have e3:(2:Int) ^ (j+(d+1))=2 ^ (j+d+1):=rfl
  rcases hs with hs|hs
  ·obtain⟨b,h1,h2,h3,h4⟩:=slt_mem j d a ok'.low s hs
   exact⟨b,h1,h2,h3,by rw[e3];omega⟩
  ·obtain⟨b,h1,h2,h3,h4⟩:=slt_mem j d (a+2 ^ (j+d)) ok'.high s hs
   exact⟨b,h1,h2,by omega,by rw[e3];omega⟩
theorem slt_rise (j:Nat):∀ (d:Nat) (a:Int),OkK (j+d) a->(slt j d a).Pairwise (fun x y=>x.1+2 ^ j<=y.1)
 | 0,a,_=>by simp[slt]
 | d+1,a,ok=>by
  have ok':OkK (j+d+1) a:=ok
  rw[slt,List.pairwise_append]
  refine⟨slt_rise j d a ok'.low,slt_rise j d _ ok'.high,fun x hx y hy=>?_⟩
  obtain⟨b,h1,h2,h3,h4⟩:=slt_mem j d a ok'.low x hx
  obtain⟨c,g1,g2,g3,g4⟩:=slt_mem j d _ ok'.high y hy
  rw[h1,g1]
  simp only [pk]
  omega
theorem slt_has (j:Nat):∀ (d:Nat) (a b:Int),OkK (j+d) a->OkK j b->a<=b->b+2 ^ j<=a+2 ^ (j+d)->pk j b∈slt j d a
 | 0,a,b,_,_,h1,h2=>by
  have:b=a:=by simp only [Nat.add_zero] at h2;omega
  subst this
  simp[slt]
 | d+1,a,b,ok,okb,h1,h2=>by
  have ok':OkK (j+d+1) a:=ok
  have e1:=pw_succ (j+d)
  have e2:=pw_pos (j+d)
  have e3:(2:Int) ^ (j+(d+1))=2 ^ (j+d+1):=rfl
  have hj:=pw_pos j
  rw[slt,List.mem_append]
  by_cases h:b<a+2 ^ (j+d)
  ·left
   refine slt_has j d a b ok'.low okb h1 ?_
   exact apart hj okb.2.2.2 (Int.dvd_add (Int.dvd_trans (pw_dvd (by omega)) ok'.2.2.2) (pw_dvd (by omega))) h
  ·right
   exact slt_has j d (a+2 ^ (j+d)) b ok'.high okb (by omega) (by rw[e3] at h2;omega)
theorem fre_0 {l:List Sp} {k:Nat} {a:Int} (ok:OkK k a) (hs:stt l k a=0) {b:Int} {j:Nat} (okb:OkK j b) (h1:a<=b) (h2:b+2 ^ j<=a+2 ^ k):fre l (pk j b)=true:=by
 rw[fre_iff]
 intro q hq
 cases e:mts (pk j b) q with
 | false=>rfl
 | true=>
  rw[okb.mts_iff] at e
  rcases stt_cases l k a with ⟨g,_⟩|⟨g,_⟩|⟨_,_,g⟩
  ·omega
  ·omega
  ·rw[List.any_eq_false] at g
   exact absurd ((ok.mts_iff q).2 ⟨by omega,by omega⟩) (g q hq)
theorem fre_1 {l:List Sp} {k:Nat} {a:Int} (ok:OkK k a) (hs:stt l k a=1) {b:Int} {j:Nat} (okb:OkK j b) (h1:a<=b) (h2:b+2 ^ j<=a+2 ^ k):fre l (pk j b)=false:=by
 have hj:=pw_pos j
 rcases stt_cases l k a with ⟨_,g⟩|⟨g,_⟩|⟨g,_⟩
 ·obtain⟨q,hq,hi⟩:=List.any_eq_true.1 g
  rw[ok.in_iff] at hi
  cases e:fre l (pk j b) with
  | false=>rfl
  | true=>
   have:=(fre_iff _ _).1 e q hq
   rw[(okb.mts_iff q).2 ⟨by omega,by omega⟩] at this
   cases this
 ·omega
 ·omega
theorem fre_2 {l:List Sp} {k:Nat} {a:Int} (hs:stt l k a=2):fre l (pk k a)=false:=by
 rcases stt_cases l k a with ⟨g,_⟩|⟨_,_,g⟩|⟨g,_⟩
 ·omega
 ·simp only [fre,g];rfl
 ·omega
def fst1 (l:List Sp) (j:Nat):Nat->Int->Option Int
 | 0,a=>if stt l 0 a=0 then some a else none
 | k+1,a=>if stt l (k+1) a=0 then some a else if stt l (k+1) a=1 \/ k+1<=j then none else (fst1 l j k a).or (fst1 l j k (a+2 ^ k))
def mny (l:List Sp) (j:Nat):Nat->Int->Int
 | 0,a=>if stt l 0 a=0 then 1 else 0
 | k+1,a=>if stt l (k+1) a=1 \/ (stt l (k+1) a=2/\k+1<=j) then 0 else if stt l (k+1) a=0 then 2 ^ (k+1 - j) else mny l j k a+mny l j k (a+2 ^ k)
theorem slt_head (j:Nat):∀ (d:Nat) (a:Int),∃ r,slt j d a=pk j a :: r
 | 0,a=>⟨[],rfl⟩
 | d+1,a=>by
  obtain⟨r,hr⟩:=slt_head j d a
  exact⟨r++slt j d (a+2 ^ (j+d)),by rw[slt,hr];rfl⟩
theorem pow_nat (n:Nat):((2 ^ n:Nat):Int)=2 ^ n:=by simp
theorem fst_slt {l:List Sp} (j:Nat):∀ (d:Nat) (a:Int),OkK (j+d) a->fst1 l j (j+d) a=((slt j d a).find? (fre l)).map (·.1)/\mny l j (j+d) a=((slt j d a).filter (fre l)).length
 | 0,a,ok=>by
  have ok0:OkK j a:=ok
  rw[slt]
  rcases stt_cases l j a with ⟨e,_⟩|⟨e,_⟩|⟨e,_⟩
  ·have f:=fre_1 ok0 e ok0 (Int.le_refl _) (Int.le_refl _)
   rw[List.find?_cons,List.filter_cons,f]
   cases j with
   | zero=>exact⟨by rw[Nat.add_zero,fst1,if_neg (by omega)];rfl,by rw[Nat.add_zero,mny,if_neg (by omega)];rfl⟩
   | succ j=>exact⟨by rw[Nat.add_zero,fst1,if_neg (by omega),if_pos (.inl e)];rfl,by rw[Nat.add_zero,mny,if_pos (.inl e)];rfl⟩
  ·have f:=fre_2 (l:=l) (k:=j) (a:=a) e
   rw[List.find?_cons,List.filter_cons,f]
   cases j with
   | zero=>exact⟨by rw[Nat.add_zero,fst1,if_neg (by omega)];rfl,by rw[Nat.add_zero,mny,if_neg (by omega)];rfl⟩
   | succ j=>exact⟨by rw[Nat.add_zero,fst1,if_neg (by omega),if_pos (.inr (by omega))];rfl,by rw[Nat.add_zero,mny,if_pos (.inr ⟨e,by omega⟩)];rfl⟩
  ·have f:=fre_0 ok0 e ok0 (Int.le_refl _) (Int.le_refl _)
   rw[List.find?_cons,List.filter_cons,f]
   cases j with
   | zero=>exact⟨by rw[Nat.add_zero,fst1,if_pos e];rfl,by rw[Nat.add_zero,mny,if_pos e];rfl⟩
   | succ j=>exact⟨by rw[Nat.add_zero,fst1,if_pos e];rfl,by rw[Nat.add_zero,mny,if_neg (by omega),if_pos e,Nat.sub_self];rfl⟩
 | d+1,a,ok=>by
  have ok':OkK (j+d+1) a:=ok
  obtain⟨i1,i2⟩:=fst_slt (l:=l) j d a ok'.low
  obtain⟨i3,i4⟩:=fst_slt (l:=l) j d (a+2 ^ (j+d)) ok'.high
  rw[show j+(d+1)=(j+d)+1 from rfl,fst1,mny]
  rcases stt_cases l (j+d+1) a with ⟨e,_⟩|⟨e,_⟩|⟨e,_⟩
  ·have f:∀ s∈slt j (d+1) a,fre l s=false:=fun s hs=>by
    obtain⟨b,rfl,h2,h3,h4⟩:=slt_mem j (d+1) a ok s hs
    exact fre_1 ok' e h2 h3 h4
   rw[if_neg (by omega),if_pos (.inl e),if_pos (.inl e),List.find?_eq_none.2 (fun s hs=>by rw[f s hs];simp),List.filter_eq_nil_iff.2 (fun s hs=>by rw[f s hs];simp)]
   exact⟨rfl,rfl⟩
  ·rw[if_neg (by omega),if_neg (by omega),if_neg (by omega),if_neg (by omega),slt,List.find?_append,List.filter_append,List.length_append,i1,i2,i3,i4]
   refine⟨?_,by omega⟩
   cases (slt j d a).find? (fre l) <;> rfl
  ·have f:∀ s∈slt j (d+1) a,fre l s=true:=fun s hs=>by
    obtain⟨b,rfl,h2,h3,h4⟩:=slt_mem j (d+1) a ok s hs
    exact fre_0 ok' e h2 h3 h4
   rw[if_pos e,if_neg (by omega),if_pos e,List.filter_eq_self.2 f,slt_len,show j+d+1 - j=d+1 from by omega,pow_nat]
   refine⟨?_,rfl⟩
   obtain⟨r,hr⟩:=slt_head j (d+1) a
   rw[hr,List.find?_cons,f _ (by rw[hr];simp)]
   rfl
end Bur
namespace Bur
open Go
theorem gps_len {p:Sp} {l:List Sp} (hp:OkP p) (hl:∀ q∈l,OkP q):(gps p l).length<=l.length+1:=by
 obtain⟨g1,g2,g3⟩:=gps_set hp hl
 have:=len_le ((gps p l).map (·.1)) (p.1 :: l.map fun q=>q.1+sz q.2) g1.lows.1 (fun x hx=>by
  obtain⟨s,hs,rfl⟩:=List.mem_map.1 hx
  have h1:=(g1.mem_hi hs).1
  have h2:=g1.ahead s hs
  rw[g3] at h1 h2
  simp only [Bool.and_eq_true,decide_eq_true_eq,Bool.not_eq_true'] at h1
  rw[List.mem_cons]
  by_cases e:s.1=p.1
  ·exact .inl e
  ·have e1:decide (p.1<=s.1 - 1)=true:=decide_eq_true (by omega)
   have e2:decide (s.1 - 1<=p.1+(sz p.2 - 1))=true:=decide_eq_true (by omega)
   rw[e1,e2] at h2
   have h3:mem (pfS l) (s.1 - 1)=true:=by simpa using h2
   obtain⟨q,hq,a1,a2⟩:=(tk_iff l _).1 h3
   refine .inr (List.mem_map.2 ⟨q,hq,?_⟩)
   apply Classical.byContradiction
   intro hne
   have h4:=h1.2
   rw[(tk_iff l s.1).2 ⟨q,hq,by omega,by omega⟩] at h4
   cases h4)
 simpa using this
def frF (p:Sp) (l:List Sp):Int:=if fault p.1 p.2=0 then (if 60<l.length then 3 else pnF l) else fault p.1 p.2
theorem frF_ok {p:Sp} {l:List Sp} (h:frF p l=0):OkP p/\l.length<=60 /\ ∀ q∈l,OkP q:=by
 unfold frF at h
 split at h
 ·rename_i e
  split at h
  ·cases h
  ·exact⟨e,by omega,pnF_ok h⟩
 ·rename_i e;exact absurd h e
theorem tkn_ps {l:List Sp} (h:l.length<=60) (hl:∀ q∈l,OkP q):psF l=0/\(psS l).length<=60:=by
 have h1:=(mk_set (pfS_inA hl)).2.2.2
 have h2:(pfS l).length=l.length:=by simp[pfS]
 have h3:psF l=0:=psF_mk (by omega) hl (by omega)
 exact⟨h3,by unfold psS;rw[if_pos h3];omega⟩
def fsp (p:Sp) (l:List Sp) (n:Int):Option Int:=fst1 l (32 - n).toNat (32 - p.2).toNat p.1
def mnp (p:Sp) (l:List Sp) (n:Int):Int:=mny l (32 - n).toNat (32 - p.2).toNat p.1
def frs (p:Sp) (l:List Sp) (n:Int):List Sp:=(slt (32 - n).toNat (n - p.2).toNat p.1).filter (fre l)
theorem fsp_frs {p:Sp} {l:List Sp} {n:Int} (hp:OkP p) (h1:p.2<=n) (h2:n<=32):fsp p l n=((frs p l n).head?).map (·.1)/\mnp p l n=(frs p l n).length:=by
 obtain⟨a,b,c,d,e⟩:=hp.parts
 have hk:(32 - p.2).toNat=(32 - n).toNat+(n - p.2).toNat:=by omega
 have ok:OkK ((32 - n).toNat+(n - p.2).toNat) p.1:=hk ▸ hp.okK.1
 obtain⟨g1,g2⟩:=fst_slt (l:=l) (32 - n).toNat (n - p.2).toNat p.1 ok
 unfold fsp mnp frs
 rw[hk,g1,g2,List.head?_filter]
 exact⟨rfl,rfl⟩
theorem frs_mem {p:Sp} {l:List Sp} {n:Int} (hp:OkP p) (h1:p.2<=n) (h2:n<=32) (s:Sp):s∈frs p l n↔OkP s/\s.2=n/\inP s p=true/\fre l s=true:=by
 obtain⟨a,b,c,d,e⟩:=hp.parts
 have hk:(32 - p.2).toNat=(32 - n).toNat+(n - p.2).toNat:=by omega
 have ok:OkK ((32 - n).toNat+(n - p.2).toNat) p.1:=hk ▸ hp.okK.1
 have hz:sz p.2=2 ^ ((32 - n).toNat+(n - p.2).toNat):=by rw[<- hk];rfl
 unfold frs
 rw[List.mem_filter]
 constructor
 ·rintro ⟨hs,hf⟩
  obtain⟨b,rfl,g2,g3,g4⟩:=slt_mem _ _ _ ok s hs
  exact⟨g2.ok,by simp only [pk];omega,(g2.in_iff p).2 ⟨g3,by omega⟩,hf⟩
 ·rintro ⟨g1,rfl,g3,g4⟩
  refine⟨?_,g4⟩
  obtain⟨k1,k2⟩:=g1.okK
  rw[k2,k1.in_iff] at g3
  have:=slt_has (32 - s.2).toNat (s.2 - p.2).toNat p.1 s.1 ok k1 g3.1 (by omega)
  rw[<- k2] at this
  exact this
theorem frs_rise {p:Sp} {l:List Sp} {n:Int} (hp:OkP p) (h1:p.2<=n) (h2:n<=32):(frs p l n).Pairwise (fun x y=>x.1+sz n<=y.1):=by
 obtain⟨a,b,c,d,e⟩:=hp.parts
 have hk:(32 - p.2).toNat=(32 - n).toNat+(n - p.2).toNat:=by omega
 have ok:OkK ((32 - n).toNat+(n - p.2).toNat) p.1:=hk ▸ hp.okK.1
 exact (slt_rise _ _ _ ok).filter _
end Bur
namespace Bur
open Go
def upn (m x:Int):Int:=(x+m - 1) / m*m
theorem upn_spec {m:Int} (hm:0<m) (x:Int):m∣upn m x/\x<=upn m x/\upn m x<x+m:=by
 have h1:=Int.mul_ediv_add_emod (x+m - 1) m
 have h2:=Int.emod_nonneg (x+m - 1) (show m≠0 by omega)
 have h3:=Int.emod_lt_of_pos (x+m - 1) hm
 rw[Int.mul_comm] at h1
 exact⟨Int.dvd_mul_left _ _,by unfold upn;omega,by unfold upn;omega⟩
theorem upn_le {m:Int} (hm:0<m) {x y:Int} (hd:m∣y) (h:x<=y):upn m x<=y:=by
 obtain⟨h1,h2,h3⟩:=upn_spec hm x
 apply Int.not_lt.1
 intro hlt
 have:=apart hm hd h1 hlt
 omega
def plc (m:Int) (g:Sp):Nat:=((g.2+1 - upn m g.1) / m).toNat
def pls (n:Int) (g:Sp):List Sp:=(List.range (plc (sz n) g)).map fun (i:Nat)=>(upn (sz n) g.1+(i:Int)*sz n,n)
theorem pls_mem (n:Int) (g s:Sp):s∈pls n g↔s.2=n/\sz n∣s.1/\g.1<=s.1/\s.1+sz n<=g.2+1:=by
 have hz:=sz_pos n
 obtain⟨h1,h2,h3⟩:=upn_spec hz g.1
 unfold pls
 rw[List.mem_map]
 constructor
 ·rintro ⟨i,hi,rfl⟩
  rw[List.mem_range] at hi
  refine⟨rfl,Int.dvd_add h1 (Int.dvd_mul_left _ _),?_,?_⟩
  ·show g.1<=upn (sz n) g.1+i*sz n
   have:=Int.mul_nonneg (show (0:Int)<=i by omega) (show 0<=sz n by omega)
   omega
  ·show upn (sz n) g.1+i*sz n+sz n<=g.2+1
   have hp:((i+1:Nat):Int)<=(g.2+1 - upn (sz n) g.1) / sz n:=by unfold plc at hi;omega
   have h4:=Int.mul_le_of_le_ediv hz hp
   have h5:((i+1:Nat):Int)*sz n=i*sz n+sz n:=by rw[Int.natCast_add,Int.add_mul];simp
   omega
 ·rintro ⟨e1,e2,e3,e4⟩
  have h4:=upn_le hz e2 e3
  obtain⟨k,hk⟩:sz n∣s.1 - upn (sz n) g.1:=Int.dvd_sub e2 h1
  have hk0:0<=k:=by
   apply Int.not_lt.1
   intro hlt
   have:=Int.mul_neg_of_pos_of_neg hz hlt
   omega
  refine⟨k.toNat,?_,Prod.ext ?_ e1.symm⟩
  ·rw[List.mem_range]
   unfold plc
   have:k+1<=(g.2+1 - upn (sz n) g.1) / sz n:=by
    rw[Int.le_ediv_iff_mul_le hz,Int.add_mul,Int.mul_comm k]
    omega
   omega
  ·show upn (sz n) g.1+(k.toNat:Int)*sz n=s.1
   rw[Int.toNat_of_nonneg hk0,Int.mul_comm k]
   omega
theorem pls_rise (n:Int) (g:Sp):(pls n g).Pairwise (fun x y=>x.1<y.1):=by
 have hz:=sz_pos n
 unfold pls
 rw[List.pairwise_map]
 refine List.pairwise_lt_range.imp (fun {i j} hij=>?_)
 show upn (sz n) g.1+i*sz n<upn (sz n) g.1+j*sz n
 have:=Int.mul_lt_mul_of_pos_right (show (i:Int)<j by omega) hz
 omega
theorem rise_one:∀ {L M:List Sp},L.Pairwise (fun x y=>x.1<y.1)->M.Pairwise (fun x y=>x.1<y.1)->(∀ s,s∈L↔s∈M)->L=M
 | [],[],_,_,_=>rfl
 | [],y :: M,_,_,h=>by have:=(h y).2 (by simp);cases this
 | x :: L,[],_,_,h=>by have:=(h x).1 (by simp);cases this
 | x :: L,y :: M,hL,hM,h=>by
  obtain⟨l1,l2⟩:=List.pairwise_cons.1 hL
  obtain⟨m1,m2⟩:=List.pairwise_cons.1 hM
  have e:x=y:=by
   rcases List.mem_cons.1 ((h x).1 (by simp)) with e|hx
   ·exact e
   ·rcases List.mem_cons.1 ((h y).2 (by simp)) with e|hy
    ·exact e.symm
    ·have:=l1 y hy
     have:=m1 x hx
     omega
  subst e
  congr 1
  refine rise_one l2 m2 (fun s=>⟨fun hs=>?_,fun hs=>?_⟩)
  ·rcases List.mem_cons.1 ((h s).1 (by simp[hs])) with e|g
   ·have:=l1 s hs;rw[e] at this;omega
   ·exact g
  ·rcases List.mem_cons.1 ((h s).2 (by simp[hs])) with e|g
   ·have:=m1 s hs;rw[e] at this;omega
   ·exact g
theorem flat_rise (n:Int):∀ {S:List Sp} {h:Int},IsS h S->(S.flatMap (pls n)).Pairwise (fun x y=>x.1<y.1) /\ ∀ s∈S.flatMap (pls n),h+1<s.1
 | [],_,_=>by simp
 | g :: r,h,⟨a,b,c⟩=>by
  obtain⟨i1,i2⟩:=flat_rise n c
  have hz:=sz_pos n
  rw[List.flatMap_cons]
  refine⟨List.pairwise_append.2 ⟨pls_rise n g,i1,fun x hx y hy=>?_⟩,fun s hs=>?_⟩
  ·have h1:=(pls_mem n g x).1 hx
   have h2:=i2 y hy
   omega
  ·rcases List.mem_append.1 hs with hs|hs
   ·have h1:=(pls_mem n g s).1 hs
    omega
   ·have:=i2 s hs
    omega
theorem frs_gps {p:Sp} {l:List Sp} {n:Int} (hp:OkP p) (hl:∀ q∈l,OkP q) (h1:p.2<=n) (h2:n<=32):frs p l n=(gps p l).flatMap (pls n):=by
 obtain⟨g1,g2,g3⟩:=gps_set hp hl
 have hz:=sz_pos n
 obtain⟨pa,pb,pc,pd,pe⟩:=hp.parts
 refine rise_one ((frs_rise hp h1 h2).imp (fun h=>by omega)) (flat_rise n g1).1 (fun s=>?_)
 rw[frs_mem hp h1 h2,List.mem_flatMap]
 constructor
 ·rintro ⟨a1,rfl,a3,a4⟩
  obtain⟨b1,b2,b3,b4,b5⟩:=a1.parts
  rw[inP_iff] at a3
  rw[fre_iff] at a4
  have hm:∀ x,s.1<=x->x<=s.1+(sz s.2 - 1)->mem (gps p l) x=true:=fun x x1 x2=>by
   rw[g3,show decide (p.1<=x)=true from decide_eq_true (by omega),show decide (x<=p.1+(sz p.2 - 1))=true from decide_eq_true (by omega)]
   cases e:mem (pfS l) x with
   | false=>rfl
   | true=>
    obtain⟨q,hq,c1,c2⟩:=(tk_iff l x).1 e
    have:=a4 q hq
    rw[(mts_iff s q).2 ⟨by omega,by omega⟩] at this
    cases this
  obtain⟨g,hg,d1,d2⟩:=(mem_iff _ _).1 (hm s.1 (Int.le_refl _) (by omega))
  obtain⟨e1,e2⟩:=g1.one hm hg d1 d2 (Int.le_refl _) (by omega)
  exact⟨g,hg,(pls_mem _ g s).2 ⟨rfl,b5,e1,by omega⟩⟩
 ·rintro ⟨g,hg,hs⟩
  obtain⟨a1,a2,a3,a4⟩:=(pls_mem n g s).1 hs
  subst a1
  have hm:∀ x,s.1<=x->x<=s.1+(sz s.2 - 1)->mem (gps p l) x=true:=fun x x1 x2=>(mem_iff _ _).2 ⟨g,hg,by omega,by omega⟩
  have m1:=hm s.1 (Int.le_refl _) (by omega)
  have m2:=hm (s.1+(sz s.2 - 1)) (by omega) (Int.le_refl _)
  rw[g3] at m1 m2
  simp only [Bool.and_eq_true,decide_eq_true_eq] at m1 m2
  have hk:(32 - s.2).toNat<=32:=by omega
  have hok:OkP s:=by
   have:=okP_mk (a:=s.1) hk (by omega) (by omega) a2
   rw[show (s.1,32 - ((32 - s.2).toNat:Int))=s from Prod.ext rfl (by show 32 - ((32 - s.2).toNat:Int)=s.2;omega)] at this
   exact this
  refine⟨hok,rfl,(inP_iff s p).2 ⟨by omega,by omega⟩,(fre_iff l s).2 (fun q hq=>?_)⟩
  cases e:mts s q with
  | false=>rfl
  | true=>
   rw[mts_iff] at e
   have hq1:=sz_pos q.2
   have:∃ x,s.1<=x/\x<=s.1+(sz s.2 - 1)/\q.1<=x/\x<=q.1+(sz q.2 - 1):=by
    by_cases c:s.1<=q.1
    ·exact⟨q.1,by omega,by omega,by omega,by omega⟩
    ·exact⟨s.1,by omega,by omega,by omega,by omega⟩
   obtain⟨x,x1,x2,x3,x4⟩:=this
   have h3:=hm x x1 x2
   rw[g3,(tk_iff l x).2 ⟨q,hq,x3,x4⟩] at h3
   simp at h3
def fsg (n:Int):List Sp->Option Int
 | []=>none
 | g :: r=>if 0<plc (sz n) g then some (upn (sz n) g.1) else fsg n r
def mng (n:Int):List Sp->Int
 | []=>0
 | g :: r=>(plc (sz n) g:Int)+mng n r
theorem flat_fsg (n:Int):∀ S:List Sp,(S.flatMap (pls n)).head?.map (·.1)=fsg n S/\((S.flatMap (pls n)).length:Int)=mng n S
 | []=>⟨rfl,rfl⟩
 | g :: r=>by
  obtain⟨i1,i2⟩:=flat_fsg n r
  have hl:(pls n g).length=plc (sz n) g:=by unfold pls;simp
  rw[List.flatMap_cons,fsg,mng,List.length_append,hl]
  refine⟨?_,by omega⟩
  by_cases h:0<plc (sz n) g
  ·rw[if_pos h]
   obtain⟨k,hk⟩:∃ k,plc (sz n) g=k+1:=⟨plc (sz n) g - 1,by omega⟩
   unfold pls
   rw[hk,List.range_succ_eq_map]
   simp
  ·rw[if_neg h,<- i1]
   have:pls n g=[]:=List.eq_nil_of_length_eq_zero (by omega)
   rw[this,List.nil_append]
theorem fsp_gaps {p:Sp} {l:List Sp} {n:Int} (hp:OkP p) (hl:∀ q∈l,OkP q) (h1:p.2<=n) (h2:n<=32):fsp p l n=fsg n (gps p l)/\mnp p l n=mng n (gps p l):=by
 obtain⟨a,b⟩:=fsp_frs (l:=l) hp h1 h2
 obtain⟨c,d⟩:=flat_fsg n (gps p l)
 rw[a,b,frs_gps hp hl h1 h2,c,d]
 exact⟨rfl,rfl⟩
end Bur
namespace Bur
open Go
def gpS (p:Sp) (l:List Sp):List Sp:=if frF p l=0 then gps p l else []
def lnF (p:Sp) (n:Int):Int:=if n<p.2 \/ 32<n then 1 else 0
def gfF (p:Sp) (l:List Sp) (n:Int):Int:=if frF p l=0 then lnF p n else frF p l
def gfS (p:Sp) (l:List Sp) (n:Int):List Sp:=if gfF p l n=0 then gps p l else []
def nnF {α : Type}:Option α -> Int
 | none=>4
 | some _=>0
def fsF (p:Sp) (l:List Sp) (n:Int):Int:=if gfF p l n=0 then nnF (fsp p l n) else gfF p l n
def fsS (p:Sp) (l:List Sp) (n:Int):Sp:=if fsF p l n=0 then ((fsp p l n).getD 0,n) else (0,0)
theorem psF_60 {l:List Sp} (h:l.length<=60):psF l=pnF l:=by
 by_cases e:pnF l=0
 ·rw[(tkn_ps h (pnF_ok e)).1,e]
 ·unfold psF
  rw[if_neg (by omega),if_neg e]
theorem frF_p {p:Sp} {l:List Sp} (h:fault p.1 p.2≠0):frF p l=fault p.1 p.2:=if_neg h
theorem frF_3 {p:Sp} {l:List Sp} (h:fault p.1 p.2=0) (h2:60<l.length):frF p l=3:=by
 unfold frF
 rw[if_pos h,if_pos h2]
theorem frF_l {p:Sp} {l:List Sp} (h:fault p.1 p.2=0) (h2:l.length<=60):frF p l=psF l:=by
 unfold frF
 rw[if_pos h,if_neg (by omega),psF_60 h2]
theorem pS_set {p:Sp} (h:OkP p):setF [pS p]=0/\InA [pS p]:=by
 obtain⟨a,b,c,d,e⟩:=h.parts
 have hz:=sz_pos p.2
 have w1:IsS (-2) [pS p]:=⟨by show _<p.1;omega,by show p.1<=p.1+(sz p.2 - 1);omega,trivial⟩
 have w2:InA [pS p]:=fun s hs=>by
  rw[List.mem_singleton] at hs
  subst hs
  exact⟨c,by show p.1<=p.1+(sz p.2 - 1);omega,d⟩
 exact⟨setF_mk (by simp) w1 w2,w2⟩
theorem gps_ps {p:Sp} {l:List Sp} (h:frF p l=0):two 3 [pS p] (psS l)=gps p l/\(gps p l).length<=61/\setF [pS p]=0/\setF (psS l)=0/\InA (gps p l):=by
 obtain⟨h1,h2,h3⟩:=frF_ok h
 obtain⟨t1,t2⟩:=tkn_ps h2 h3
 obtain⟨s1,s2⟩:=ps_set t1
 obtain⟨_,s3,s4⟩:=setF_ok s1
 obtain⟨w1,w2⟩:=pS_set h1
 obtain⟨i1,i2⟩:=two_set 3 w2 s4
 obtain⟨j1,j2⟩:=two_set 3 w2 (pfS_inA h3)
 have hl:=gps_len h1 h3
 refine⟨i1.uniq j1 (fun x=>?_),by omega,w1,s1,(gps_set h1 h3).2.1⟩
 rw[i2,s2]
 exact (j2 x).symm
theorem gps_one {p:Sp} {l:List Sp} (h:frF p l=0):∀ s∈gps p l,0<=s.1/\s.1<=s.2/\s.2<=4294967295:=(gps_ps h).2.2.2.2
theorem lnF_ok {p:Sp} {n:Int} (h:lnF p n=0):p.2<=n/\n<=32:=by
 unfold lnF at h
 split at h
 ·cases h
 ·omega
theorem gfF_ok {p:Sp} {l:List Sp} {n:Int} (h:gfF p l n=0):frF p l=0/\p.2<=n/\n<=32:=by
 unfold gfF at h
 split at h
 ·rename_i e
  exact⟨e,lnF_ok h⟩
 ·rename_i e;exact absurd h e
theorem sz_le32 {n:Int} (h:0<=n):sz n<=4294967296:=by
 have:=pw_le (show (32 - n).toNat<=32 by omega)
 show (2:Int) ^ _<=_
 omega
theorem plc_eq {m:Int} (hm:0<m) (g:Sp):(plc m g:Int)=max 0 ((g.2+1) / m - (g.1+m - 1) / m):=by
 unfold plc upn
 have:(g.2+1 - (g.1+m - 1) / m*m) / m=(g.2+1) / m - (g.1+m - 1) / m:=by
  rw[show g.2+1 - (g.1+m - 1) / m*m=g.2+1+(-((g.1+m - 1) / m))*m by rw[Int.neg_mul];omega,Int.add_mul_ediv_right _ _ (by omega)]
  omega
 rw[this]
 omega
theorem fs_fsg {p:Sp} {l:List Sp} {n:Int} (h:gfF p l n=0):fsp p l n=fsg n (gps p l)/\mnp p l n=mng n (gps p l):=by
 obtain⟨h0,h1,h2⟩:=gfF_ok h
 obtain⟨a,b,c⟩:=frF_ok h0
 exact fsp_gaps a c h1 h2
end Bur
namespace Bur
open Go
def usa (p:Sp):Sp:=if 30<p.2 then (p.1,p.1+sz p.2 - 1) else (p.1+1,p.1+sz p.2 - 2)
theorem usa_in {p:Sp} (h:OkP p):0<=(usa p).1/\(usa p).1<=(usa p).2/\(usa p).2<=4294967295:=by
 obtain⟨a,b,c,d,e⟩:=h.parts
 have hz:=sz_pos p.2
 unfold usa
 split
 ·exact⟨c,by show p.1<=p.1+sz p.2 - 1;omega,by show p.1+sz p.2 - 1<=_;omega⟩
 ·rename_i hn
  have h4:(4:Int)<=sz p.2:=by
   have:=pw_le (j:=2) (k:=(32 - p.2).toNat) (by omega)
   rw[pw_sz]
   exact this
  exact⟨by show 0<=p.1+1;omega,by show p.1+1<=p.1+sz p.2 - 2;omega,by show p.1+sz p.2 - 2<=_;omega⟩
def usS (p:Sp):Sp:=if fault p.1 p.2=0 then usa p else (0,0)
def adF:List Int->Int
 | []=>0
 | a :: r=>if isA a=true then adF r else 1
def usF (p:Sp) (u:List Int):Int:=if fault p.1 p.2=0 then (if 200<u.length then 3 else adF u) else fault p.1 p.2
theorem adF_ok:∀ {u:List Int},adF u=0 -> ∀ a∈u,isA a=true
 | x :: r,h,a,ha=>by
  rw[adF] at h
  split at h
  ·rename_i e
   rcases List.mem_cons.1 ha with rfl|ha
   ·exact e
   ·exact adF_ok h a ha
  ·cases h
theorem usF_ok {p:Sp} {u:List Int} (h:usF p u=0):OkP p/\u.length<=200 /\ ∀ a∈u,isA a=true:=by
 unfold usF at h
 split at h
 ·rename_i e
  split at h
  ·cases h
  ·exact⟨e,by omega,adF_ok h⟩
 ·rename_i e;exact absurd h e
def nxN (u:List Int):Nat->Int->Option Int
 | 0,_=>none
 | k+1,a=>if a∈u then nxN u k (a+1) else some a
def nxt (p:Sp) (u:List Int):Option Int:=nxN u ((usa p).2 - (usa p).1+1).toNat (usa p).1
theorem nxN_some (u:List Int):∀ (k:Nat) (a b:Int),nxN u k a=some b->a<=b/\b<a+k/\b ∉ u /\ ∀ x,a<=x->x<b->x∈u
 | 0,_,_,h=>by cases h
 | k+1,a,b,h=>by
  rw[nxN] at h
  split at h
  ·rename_i e
   obtain⟨h1,h2,h3,h4⟩:=nxN_some u k (a+1) b h
   refine⟨by omega,by omega,h3,fun x g1 g2=>?_⟩
   by_cases c:x=a
   ·rw[c];exact e
   ·exact h4 x (by omega) g2
  ·rename_i e
   cases h
   exact⟨Int.le_refl _,by omega,e,fun x g1 g2=>by omega⟩
theorem nxN_none (u:List Int):∀ (k:Nat) (a:Int),nxN u k a=none -> ∀ x,a<=x->x<a+k->x∈u
 | 0,_,_,x,h1,h2=>by omega
 | k+1,a,h,x,h1,h2=>by
  rw[nxN] at h
  split at h
  ·rename_i e
   by_cases c:x=a
   ·rw[c];exact e
   ·exact nxN_none u k (a+1) h x (by omega) (by omega)
  ·cases h
def shr (lo hi:Int):List Int->List Int->Int
 | _,[]=>0
 | seen,x :: r=>(if lo<=x/\x<=hi/\x ∉ seen then 1 else 0)+shr lo hi (seen ++ [x]) r
theorem ct_put {p q:Int->Bool}:∀ (n:Nat) (a x:Int),a<=x->x<a+n->p x=false->q x=true->(∀ y,y≠x->p y=q y)->ct q a n=ct p a n+1
 | 0,a,x,h1,h2,_,_,_=>by omega
 | n+1,a,x,h1,h2,hp,hq,h=>by
  rw[ct,ct]
  by_cases c:x=a
  ·subst c
   rw[hp,hq,ct_congr (p:=q) (q:=p) n (x+1) (fun y g1 _=>(h y (by omega)).symm)]
   simp
   omega
  ·rw[h a (fun g=>c g.symm),ct_put n (a+1) x (by omega) (by omega) hp hq h]
   omega
theorem shr_ct (lo hi:Int):∀ (r seen:List Int),shr lo hi seen r+ct (fun x=>decide (x∈seen)) lo (hi - lo+1).toNat=ct (fun x=>decide (x∈seen++r)) lo (hi - lo+1).toNat
 | [],seen=>by rw[shr,List.append_nil];omega
 | x :: r,seen=>by
  have ih:=shr_ct lo hi r (seen ++ [x])
  rw[shr]
  rw[List.append_assoc,List.singleton_append] at ih
  rw[<- ih]
  by_cases c:lo<=x/\x<=hi/\x ∉ seen
  ·rw[if_pos c,ct_put (p:=fun y=>decide (y∈seen)) (q:=fun y=>decide (y∈seen ++ [x])) _ lo x c.1 (by omega) (by simp[c.2.2]) (by simp) (fun y hy=>by simp[hy])]
   omega
  ·rw[if_neg c,ct_congr (p:=fun y=>decide (y∈seen)) (q:=fun y=>decide (y∈seen ++ [x])) _ lo (fun y g1 g2=>?_)]
   ·omega
   ·by_cases e:y=x
    ·subst e
     have:y∈seen:=Classical.byContradiction fun hn=>c ⟨g1,by omega,hn⟩
     simp[this]
    ·simp[e]
theorem shr_all (lo hi:Int) (u:List Int):shr lo hi [] u=ct (fun x=>decide (x∈u)) lo (hi - lo+1).toNat:=by
 have h:=shr_ct lo hi u []
 rw[show (fun x:Int=>decide (x∈([]:List Int)))=fun _=>false from by funext x;simp,ct_no,List.nil_append] at h
 omega
def shp (p:Sp) (u:List Int):Int:=shr (usa p).1 (usa p).2 [] u
def alp (p:Sp):Int:=(usa p).2 - (usa p).1+1
theorem ct_le (p:Int->Bool):∀ (n:Nat) (a:Int),ct p a n<=n
 | 0,_=>by simp[ct]
 | n+1,a=>by
  have:=ct_le p n (a+1)
  rw[ct]
  split <;> omega
theorem nxt_some {p:Sp} {u:List Int} {a:Int} (hp:OkP p) (h:nxt p u=some a) :
  (usa p).1<=a/\a<=(usa p).2/\a ∉ u/\shp p u<alp p/\shp p (u ++ [a])=shp p u+1 /\ ∀ b,nxt p (u ++ [a])=some b->a<b:=by
 have hu:=usa_in hp
 obtain⟨h1,h2,h3,h4⟩:=nxN_some u _ _ a h
 have h5:shp p (u ++ [a])=shp p u+1:=by
  unfold shp
  rw[shr_all,shr_all]
  exact ct_put _ _ a h1 (by omega) (by simp[h3]) (by simp) (fun y hy=>by simp[hy])
 have h6:shp p (u ++ [a])<=alp p:=by
  unfold shp alp
  rw[shr_all]
  have:=ct_le (fun x=>decide (x∈u ++ [a])) ((usa p).2 - (usa p).1+1).toNat (usa p).1
  omega
 refine⟨h1,by omega,h3,by omega,h5,fun b hb=>?_⟩
 obtain⟨g1,g2,g3,g4⟩:=nxN_some (u ++ [a]) _ _ b hb
 apply Int.not_le.1
 intro hle
 by_cases c:b=a
 ·exact g3 (by simp[c])
 ·exact g3 (by simp[h4 b g1 (by omega)])
def tk (lo hi:Int) (u:List Int):List Int:=u.filter fun x=>decide (lo<=x)&&decide (x<=hi)
theorem mem_tk {lo hi x:Int} {u:List Int}:x∈tk lo hi u↔x∈u/\lo<=x/\x<=hi:=by simp[tk]
theorem tk_snoc (lo hi x:Int) (u:List Int):tk lo hi (u ++ [x])=if lo<=x/\x<=hi then tk lo hi u ++ [x] else tk lo hi u:=by
 unfold tk
 rw[List.filter_append]
 by_cases h:lo<=x/\x<=hi
 ·rw[if_pos h];simp[h.1,h.2]
 ·rw[if_neg h]
  have:(decide (lo<=x)&&decide (x<=hi))=false:=by
   rw[Bool.and_eq_false_iff,decide_eq_false_iff_not,decide_eq_false_iff_not]
   exact Decidable.not_and_iff_or_not.1 h
  simp[this]
theorem nxN_tk {lo hi a:Int} {u:List Int} (h1:lo<=a) (h2:a<=hi):nxN u (hi - a+1).toNat a=if a∈tk lo hi u then nxN u (hi - (a+1)+1).toNat (a+1) else some a:=by
 rw[show (hi - a+1).toNat=(hi - (a+1)+1).toNat+1 from by omega,nxN]
 by_cases c:a∈u
 ·rw[if_pos c,if_pos (mem_tk.2 ⟨c,h1,h2⟩)]
 ·rw[if_neg c,if_neg (fun g=>c (mem_tk.1 g).1)]
def nxF (p:Sp) (u:List Int):Int:=if usF p u=0 then (if (nxt p u).isSome=true then 0 else 4) else usF p u
def nxS (p:Sp) (u:List Int):Int:=if usF p u=0 then (nxt p u).getD 0 else 0
end Bur
