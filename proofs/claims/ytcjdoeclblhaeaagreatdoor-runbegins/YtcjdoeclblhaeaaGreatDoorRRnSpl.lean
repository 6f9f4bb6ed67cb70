/- -/
import Derived.Test.YtcjdoeclblhaeaaGreatDoorRAdCutMath
import Derived.Lib.Split
import Derived.Lib.CountLaws
import Derived.Lib.AtoiAll
import Derived.Lib.Strings
namespace Go.Proofs.YtcjdoeclblhaeaaGreatDoor.Rn
open Go
theorem cut_idx {c:UInt8} {l:List UInt8} (h:Lib.index l [c] = -1):Bur.cutc c l=(l,[],false):=by
 rw[<- Bur.cut_eq]
 unfold Lib.cut
 rw[if_neg (by omega)]
theorem cut_at {c:UInt8} {l:List UInt8} {i:Nat} (h:Lib.index l [c]=i):Bur.cutc c l=(l.take i,l.drop (i+1),true):=by
 rw[<- Bur.cut_eq]
 unfold Lib.cut
 rw[if_pos (by omega),h]
 simp
theorem spl_spc (c:UInt8):∀ (n:Nat) (l:List UInt8),l.length<=n->Lib.splitK [c] 0 (Lib.count l [c]) l=Bur.spc c [] l:=by
 intro n
 induction n with
 | zero=>
  intro l hl
  have e:l=[]:=List.eq_nil_of_length_eq_zero (by omega)
  subst e
  have h:Lib.index [] [c] = -1:=by simp[Lib.index]
  rw[Lib.count_miss h]
  rfl
 | succ n ih=>
  intro l hl
  by_cases h:Lib.index l [c] = -1
  ·rw[Lib.count_miss h,Bur.spc_no (by rw[cut_idx h]),cut_idx h]
   rfl
  ·obtain⟨i,hi⟩:∃ i:Nat,Lib.index l [c]=i:=by
    have:=Lib.index_ge l [c]
    exact⟨(Lib.index l [c]).toNat,by omega⟩
   have hc:=cut_at hi
   have hlt:(l.drop (i+1)).length<=n:=by
    have:l ≠ []:=by
     intro e
     rw[e] at hi
     simp[Lib.index] at hi
    have:=List.length_pos_iff.2 this
    simp
    omega
   rw[Lib.count_hit (by simp) hi,Nat.add_comm,Bur.spc_yes (by rw[hc]),hc,<- ih _ hlt]
   have hm:¬ (Lib.index l [c] == -1)=true:=fun e=>h (beq_iff_eq.1 e)
   rw[Lib.splitK,if_neg hm,hi]
   simp
def wds (l:List UInt8):List (List UInt8):=Bur.spc 32 [] l
theorem split_wds (l:List UInt8):(Lib.splitB ⟨#[32]⟩ 0 (Lib.countB ⟨l.toArray⟩ ⟨#[32]⟩) ⟨l.toArray⟩).map (fun b=>b.data.toList)=wds l:=by
 rw[Lib.splitB_data]
 exact spl_spc 32 l.length l (Nat.le_refl _)
def wsum:List (List UInt8)->Nat
 | []=>0
 | x :: r=>x.length+1+wsum r
theorem spc_sum (c:UInt8):∀ (l cur:List UInt8),wsum (Bur.spc c cur l)=cur.length+l.length+1
 | [],cur=>by simp[Bur.spc,wsum]
 | b :: l,cur=>by
  by_cases h:b=c
  ·rw[Bur.spc_hit h]
   have:=spc_sum c l []
   simp[wsum,this]
   omega
  ·rw[Bur.spc_miss h,spc_sum c l]
   simp
   omega
theorem wds_sum (l:List UInt8):wsum (wds l)=l.length+1:=by
 have:=spc_sum 32 l []
 simpa [wds] using this
theorem wds_pos (l:List UInt8):0<(wds l).length:=Bur.spc_pos 32 l
theorem wsum_mem:∀ {ws:List (List UInt8)} {x:List UInt8},x∈ws->x.length+1<=wsum ws
 | y :: r,x,h=>by
  rcases List.mem_cons.1 h with e|h
  ·rw[e];simp[wsum]
  ·have:=wsum_mem h
   simp[wsum]
   omega
end Go.Proofs.YtcjdoeclblhaeaaGreatDoor.Rn
namespace Go.Proofs.YtcjdoeclblhaeaaGreatDoor.Rn
open Go Pa
def okT:List UInt8:=[111,107]
def badT:List UInt8:=[98,97,100]
def errT (f:Int):List UInt8:=if f=0 then [79,75] else if f=1 then [69,114,114,82,97,110,103,101] else if f=2 then [69,114,114,83,104,97,112,101] else if f=3 then [69,114,114,70,117,108,108] else if f=4 then [69,114,114,78,111,110,101] else if f=5 then [69,114,114,83,121,110,116,97,120] else if f=6 then [69,114,114,67,108,97,115,104] else if f=7 then [69,114,114,83,116,97,116,101] else if f=8 then [69,114,114,68,111,119,110] else [69,114,114,110,111]
abbrev Rw:=Except Int
def told:Rw (List UInt8)->List UInt8
 | .ok t=>t
 | .error f=>if f=0 then badT else errT f
def nmW (w:List UInt8):Rw Int:=match Lib.atoiAll w with
 | .ok n=>if Lib.itoa n=w/\(Lib.trimPrefix w [45]).length<=9 then .ok n else .error 0
 | _=>.error 0
theorem atoi_bd {l:List UInt8} {n:Int} (h:Lib.atoiAll l=.ok n):I6 n:=by
 unfold Lib.atoiAll at h
 split at h
 ·cases h
 ·dsimp only at h
  split at h
  ·cases h
  ·cases h
  ·split at h
   ·cases h
   ·split at h
    ·cases h
    ·injection h with h
     rw[<- h]
     unfold I6
     split <;> omega
theorem nmW_bd {w:List UInt8} {n:Int} (h:nmW w=.ok n):I6 n:=by
 unfold nmW at h
 split at h
 ·rename_i m e
  split at h
  ·injection h with h
   rw[<- h]
   exact atoi_bd e
  ·cases h
 ·cases h
def byF {α : Type} (f:Int) (t : α):Rw α := if f=0 then .ok t else .error f
def kd (v:List UInt8) (n:Nat):Nat:=
 if v=[110,101,116]/\n=2 then 1
 else if v=[97,100,100]/\n=3 then 2
 else if v=[116,97,107,101]/\n=2 then 3
 else if v=[112,108,97,99,101]/\n=3 then 4
 else if v=[108,101,97,118,101]/\n=2 then 5
 else if v=[110,101,120,116]/\n=4 then 6
 else if v=[104,111,115,116]/\n=3 then 7
 else if v=[108,105,115,116]/\n=1 then 8
 else if v=[119,104,111]/\n=2 then 9
 else 0
def wd (ws:List (List UInt8)) (i:Nat):List UInt8:=(ws[i]?).getD []
theorem kd_len {v:List UInt8} {n:Nat} (h:kd v n≠0):3<=v.length:=by
 unfold kd at h
 repeat' (split at h; · rename_i q;rw[q.1];decide)
 exact absurd rfl h
end Go.Proofs.YtcjdoeclblhaeaaGreatDoor.Rn
