/- -/
import Derived.Test.YtcjdoeclblhaeaaGreatDoorRVsBase
import Derived.Test.YtcjdoeclblhaeaaGreatDoorRAppOne
import Derived.Laws.Cover1
import Derived.Test.YtcjdoeclblhaeaaGreatDoorRVsMath
import Derived.Laws.OwnMore
import Derived.Lib.Builder
set_option maxHeartbeats 4000000
set_option maxRecDepth 20000
namespace Vs
def ahd (l:List Chg):Nat->ByteArray
 | 0=>⟨#[]⟩
 | k+1=>(l[k]?.map (·.k)).getD ⟨#[]⟩
def chA:ByteArray->List Chg->Int
 | _,[]=>0
 | p,c :: r=>if chW c=true \/ bl p c.k=false then 2 else chA c.k r
theorem bl_nil {k:ByteArray} (h:1<=k.size):bl ⟨#[]⟩ k=true:=by
 obtain⟨⟨l⟩⟩:=k
 cases l with
 | nil=>simp[ByteArray.size] at h
 | cons x s=>unfold bl;rw[Go.Lib.toList_data,Go.Lib.toList_data];simp[Go.Op.bytesLess]
theorem chA_some (p:ByteArray):∀ (l:List Chg),chA p l=chG (some p) l
 | []=>rfl
 | c :: r=>by rw[chA,chG,chA_some c.k r]
theorem chA_none (l:List Chg):chA ⟨#[]⟩ l=chG none l:=by
 cases l with
 | nil=>rfl
 | cons c r=>
  rw[chA,chG,chA_some]
  cases h:chW c
  ·rw[bl_nil (chW_ok h).1];simp
  ·simp
theorem ahd_step {l:List Chg} {k:Nat} {x:Chg} (hx:l[k]? = some x):ahd l (k+1)=x.k:=by simp[ahd,hx]
theorem chA_step {l:List Chg} {k:Nat} {x:Chg} (hx:l[k]? = some x) (p:ByteArray):chA p (l.drop k)=if chW x=true \/ bl p x.k=false then 2 else chA x.k (l.drop (k+1)):=by
 rw[drop_ch hx,chA]
theorem bl_le' (a b:ByteArray):(Go.Op.bytesLess a.toList b.toList || a.toList==b.toList) = !(bl b a):=by
 rw[show Go.Op.bytesLess a.toList b.toList=bl a b from rfl,beq_str]
 cases h1:bl a b
 ·cases h2:bl b a
  ·simpa using bl_tri h1 h2
  ·have:¬ a=b:=fun e=>by rw[e,bl_irr] at h2;cases h2
   simpa using this
 ·cases h2:bl b a
  ·rfl
  ·have:=bl_trans h1 h2
   rw[bl_irr] at this;cases this
end Vs
namespace Go.Proofs.YtcjdoeclblhaeaaGreatDoor
open Go.RowKit Go.Lib
theorem size_nil (k:ByteArray):k.toList=[]↔k.size<1:=by
 rw[toList_data]
 have:k.data.toList.length=k.size:=rfl
 constructor
 ·intro h;rw[h] at this;simp at this;omega
 ·intro h;exact List.eq_nil_of_length_eq_zero (by omega)
theorem shaped (c:Vs.Chg) (w:World):Calls Tryz.prog 237 #[.agg #[.string c.k,.string c.v,.bool c.g]] w fun e w'=>e=.returned (.bool (!Vs.chW c))/\Below w.heap.size w w':=by
 obtain⟨k,v,g⟩:=c
 have sk:=size_nil k
 have sv:=size_nil v
 by_cases h1:k.size<1
 ·have W:Vs.chW ⟨k,v,g⟩=true:=by simp[Vs.chW,Vs.shF,h1]
  rw[W]
  have g0:k.toList=[]:=sk.2 h1
  clear sk sv
  go_enter Tryz.func237,Tryz.ntmps237
  go_wp2
  go_ret
  exact⟨rfl,below_al (below_self _) _⟩
 have g0:¬ k.toList=[]:=fun e=>h1 (sk.1 e)
 have g1:k.toList.isEmpty=false:=by simpa using g0
 by_cases h2:24<k.size
 ·have W:Vs.chW ⟨k,v,g⟩=true:=by simp[Vs.chW,Vs.shF,h2]
  rw[W]
  have h2':decide ((24:Int)<(k.size:Int))=true:=by simp;omega
  clear sk sv
  go_enter Tryz.func237,Tryz.ntmps237
  go_wp2
  go_ret
  exact⟨rfl,below_al (below_self _) _⟩
 have h2':decide ((24:Int)<(k.size:Int))=false:=by simp;omega
 cases g
 ·have W:(!Vs.chW ⟨k,v,false⟩)=decide ((v.size:Int)<=12):=by
   by_cases h3:12<v.size
   ·rw[decide_eq_false (by omega)];simp[Vs.chW,Vs.shF,h3]
   ·rw[decide_eq_true (by omega)];simp[Vs.chW,Vs.shF,h1,h2,h3]
  generalize (!Vs.chW ⟨k,v,false⟩)=R at W
  replace W:Hid _:=W
  clear sk sv
  go_enter Tryz.func237,Tryz.ntmps237
  go_wp2
  go_ret
  exact⟨by rw[W.out];rfl,below_al (below_self _) _⟩
 ·have W:(!Vs.chW ⟨k,v,true⟩)=v.toList.isEmpty:=by
   by_cases h3:v.size<1
   ·have h5:v.size=0:=by omega
    rw[sv.2 h3];simp[Vs.chW,Vs.shF,h1,h2,h5]
   ·have:¬ v.toList=[]:=fun e=>h3 (sv.1 e)
    have e2:v.toList.isEmpty=false:=by simpa using this
    rw[e2];simp[Vs.chW];omega
  generalize (!Vs.chW ⟨k,v,true⟩)=R at W
  replace W:Hid _:=W
  clear sk sv
  go_enter Tryz.func237,Tryz.ntmps237
  go_wp2
  go_ret
  exact⟨by rw[W.out];rfl,below_al (below_self _) _⟩
theorem check (l:List Vs.Chg) (p:Option Addr) (cp:Nat) (w:World) (hl:l.length<=9223372036854775807) (hp:ChAt w p l) :
  Calls Tryz.prog 191 #[.slice p l.length cp] w fun e w'=>e=.returned (ev (Vs.chF l))/\Below w.heap.size w w':=by
 by_cases hlen:20<l.length
 ·rw[show Vs.chF l=3 from by unfold Vs.chF;rw[if_pos hlen]]
  have hlen':(20:Int)<(l.length:Int):=by omega
  go_enter Tryz.func191,Tryz.ntmps191
  go_wp2
  go_ret
  exact⟨rfl,below_self _⟩
 obtain⟨R,hR⟩:∃ R,R=Vs.chF l:=⟨_,rfl⟩
 rw[<- hR]
 replace hR:Hid (R=Vs.chA (Vs.ahd l 0) (l.drop 0)):=by show _=_;rw[hR];unfold Vs.chF;rw[if_neg hlen];exact (Vs.chA_none l).symm
 have hlen':¬ (20:Int)<(l.length:Int):=by omega
 go_enter Tryz.func191,Tryz.ntmps191
 go_wp2
 go_loopw [3,12] (fun a i wr=>∃ (k:Nat),k<=l.length/\i=.int .i64 k/\a=.string (Vs.ahd l k)/\Hid (R=Vs.chA (Vs.ahd l k) (l.drop k))/\Below w.heap.size w wr) (fun _ i _=>l.length - (intOf i).toNat)
 case atStart=>exact⟨0,by omega,rfl,rfl,hR,below_self _⟩
 case round=>
  obtain⟨k,hk,rfl,rfl,hM,hb⟩:=hrel
  by_cases hlt:k<l.length
  ·have hlt':(k:Int)<(l.length:Int):=by omega
   obtain⟨b1,o1,rfl,hb1,hc1⟩:=hp (by omega)
   obtain⟨x,hx⟩:=Vs.chsome hlt
   obtain⟨d0,d1,d2⟩:=hc1 k x hx
   have e0:=(hb.cell (p:=⟨b1,o1+k*3,none⟩) hb1).trans d0
   have e1:=(hb.cell (p:=⟨b1,o1+k*3+1,none⟩) hb1).trans d1
   have e2:=(hb.cell (p:=⟨b1,o1+k*3+2,none⟩) hb1).trans d2
   have hD:=Vs.chA_step hx (Vs.ahd l k)
   rw[<- hM.out] at hD
   replace hD:Hid _:=hD
   have hN:=Vs.ahd_step hx
   have hle:=Vs.bl_le' x.k (Vs.ahd l k)
   generalize Vs.ahd l k=y at hD hle
   have KS:=fun W=>shaped x W
   clear hM hR hp hc1 d0 d1 d2 hx
   cases hW:Vs.chW x
   ·rw[hW] at KS hD
    cases g:Vs.bl y x.k
    ·have E:Hid (R=2):=by show _=_;rw[hD.out,g];simp
     have g1:(Op.bytesLess x.k.toList y.toList || x.k.toList==y.toList)=true:=by rw[hle,g];rfl
     clear hD hle hN g
     go_wp2_with (go_at_call 237;refine (KS _).mono ?_;rintro e w2 ⟨rfl,hb2⟩;have hb3:=below_via (below_al hb _) hb2;have f0:=(hb2.cell (p:=⟨wr.heap.size,0,none⟩) (by simp)).trans (show _=some (.string x.k) from by simp);clear hb2)
     go_wp2
     go_ret
     exact⟨by rw[E.out];rfl,hb3⟩
    ·have g1:(Op.bytesLess x.k.toList y.toList || x.k.toList==y.toList)=false:=by rw[hle,g];rfl
     have E:Hid (R=Vs.chA (Vs.ahd l (k+1)) (l.drop (k+1))):=by show _=_;rw[hD.out,g,hN];simp
     replace hN:Hid _:=hN
     clear hD hle g
     go_wp2_with (go_at_call 237;refine (KS _).mono ?_;rintro e w2 ⟨rfl,hb2⟩;have hb3:=below_via (below_al hb _) hb2;have f0:=(hb2.cell (p:=⟨wr.heap.size,0,none⟩) (by simp)).trans (show _=some (.string x.k) from by simp);clear hb2)
     go_wp2
     exact⟨⟨k+1,by omega,by go_num,by rw[hN.out],E,hb3⟩,by simp[intOf];omega⟩
   ·rw[hW] at KS hD
    have E:Hid (R=2):=by show _=_;rw[hD.out];simp
    clear hD hle hN
    go_wp2_with (go_at_call 237;refine (KS _).mono ?_;rintro e w2 ⟨rfl,hb2⟩;have hb3:=below_via (below_al hb _) hb2;have f0:=(hb2.cell (p:=⟨wr.heap.size,0,none⟩) (by simp)).trans (show _=some (.string x.k) from by simp);clear hb2)
    go_wp2
    go_ret
    exact⟨by rw[E.out];rfl,hb3⟩
  ·have E:Hid (R=0):=by show _=_;rw[hM.out,List.drop_eq_nil_of_le (by omega)];rfl
   clear hM hp hR
   go_wp2
   go_ret
   exact⟨by rw[E.out];rfl,hb⟩
end Go.Proofs.YtcjdoeclblhaeaaGreatDoor
namespace Go.Proofs.YtcjdoeclblhaeaaGreatDoor
open Go.RowKit Go.Lib
theorem appendText (o:List UInt8) (s:ByteArray) (m B:Nat) (v:Value) (w:World) (hB:B<=w.heap.size) (hown:w.ownsRow B 5 1 v o.length (byV o)) (ho:o.length<=2000) (hs:s.size<=24) (hm:m<=128) :
  Calls Tryz.prog 238 #[v,.string s,.int .i64 m] w fun e w'=>∃ v',e=.returned v'/\w'.ownsRow B 5 1 v' (o++UInt8.ofNat (s.size+m) :: s.data.toList).length (byV (o++UInt8.ofNat (s.size+m) :: s.data.toList))/\But (fun k=>v.ownBlock=some k) w w':=by
 have hE:o++UInt8.ofNat (s.size+m) :: s.data.toList=o ++ [UInt8.ofNat (s.size+m)]++s.data.toList:=by simp
 rw[hE]
 replace hE:True:=trivial
 go_enter Tryz.func238,Tryz.ntmps238
 go_wp2_with (first
  | (at_builtin;refine wpList_append_text rfl _ _ rfl B _ (o ++ [UInt8.ofNat (s.size+m)]) rfl hx2 s rfl (by simp;omega) (by have:=hb2.size;omega) ?_;intro v3 w3 hx3 hgrow3;have hb3:But (fun k=>v.ownBlock=some k) w w3:=hb2.grown (row:=v2.ownBlock) hgrow3 (fun k hk=>by (rcases hat with hat|hat <;> first|(rw[hat] at hk;exact .inl hk)|(rw[hat] at hk;simp at hk;right;omega)));clear hgrow3)
  | (at_builtin;refine wpList_append_oneAt 30 5 1 1 _ Tryz.underlying30 infoByte rfl (by decide) (by decide) rfl _ _ rfl B _ o.length (byV o) rfl (hown.alloc _) (by simp;omega) w.heap.size [.int .u8 (s.size+m)] rfl rfl (byte_new _ _ _) byte_one (by omega) ?_;intro v2 w2 hown2 hgrow2 hat;have hx2:=own_byte (o:=o) (c:=UInt8.ofNat (s.size+m)) (by simp;omega) hown2;have hb2:But (fun k=>v.ownBlock=some k) w w2:=((But.refl _ w).alloc _).grown hgrow2 (fun k hk=>.inl hk);clear hown2 hgrow2)
  | go_in)
 go_ret
 exact⟨_,rfl,hx3,hb3⟩
theorem appendGone (o:List UInt8) (c:Vs.Chg) (B:Nat) (v:Value) (w:World) (hB:B<=w.heap.size) (hown:w.ownsRow B 5 1 v o.length (byV o)) (ho:o.length<=1000) (hc:Vs.chW c=false) (hg:c.g=true) :
  Calls Tryz.prog 192 #[v,.agg #[.string c.k,.string c.v,.bool c.g]] w fun e w'=>∃ v',e=.returned v'/\w'.ownsRow B 5 1 v' (o++Vs.encC c).length (byV (o++Vs.encC c))/\Below B w w':=by
 obtain⟨h1,h2,h3,h4⟩:=Vs.chW_ok hc
 have hE:Vs.encC c=UInt8.ofNat (c.k.size+128) :: c.k.data.toList:=by rw[Vs.encC,hg];simp
 rw[hE,hg]
 replace hE:True:=trivial
 have hl:=hown.lt
 go_enter Tryz.func192,Tryz.ntmps192
 go_wp2_with (go_at_call 238;refine (appendText o c.k 128 B v _ (by simp;omega) (hown.alloc _) (by omega) (by omega) (by omega)).mono ?_;rintro e w2 ⟨v2,rfl,hx2,hb2⟩)
 go_ret
 exact⟨_,rfl,hx2,((below_al (below_self w) _).mono hB).trans (hb2.under (by simp;omega) (fun k hk e=>by have:=(hl k e).1;omega))⟩
theorem appendThere (o:List UInt8) (c:Vs.Chg) (B:Nat) (v:Value) (w:World) (hB:B<=w.heap.size) (hown:w.ownsRow B 5 1 v o.length (byV o)) (ho:o.length<=1000) (hc:Vs.chW c=false) (hg:c.g=false) :
  Calls Tryz.prog 192 #[v,.agg #[.string c.k,.string c.v,.bool c.g]] w fun e w'=>∃ v',e=.returned v'/\w'.ownsRow B 5 1 v' (o++Vs.encC c).length (byV (o++Vs.encC c))/\Below B w w':=by
 obtain⟨h1,h2,h3,h4⟩:=Vs.chW_ok hc
 have hE:o++Vs.encC c=(o++UInt8.ofNat (c.k.size+0) :: c.k.data.toList)++UInt8.ofNat (c.v.size+0) :: c.v.data.toList:=by rw[Vs.encC,hg];simp
 rw[hE,hg]
 replace hE:True:=trivial
 have hl:=hown.lt
 have K1:∀ W:World,W.ownsRow B 5 1 v o.length (byV o)->B<=W.heap.size->Calls Tryz.prog 238 #[v,.string c.k,.int .i64 0] W _:=fun W g1 g2=>appendText o c.k 0 B v W g2 g1 (by omega) (by omega) (by omega)
 have K2:∀ (u:Value) (W:World),W.ownsRow B 5 1 u (o++UInt8.ofNat (c.k.size+0) :: c.k.data.toList).length (byV (o++UInt8.ofNat (c.k.size+0) :: c.k.data.toList))->B<=W.heap.size->Calls Tryz.prog 238 #[u,.string c.v,.int .i64 0] W _:=fun u W g1 g2=>appendText _ c.v 0 B u W g2 g1 (by simp;omega) (by omega) (by omega)
 generalize o++UInt8.ofNat (c.k.size+0) :: c.k.data.toList=o2 at K1 K2
 have f0:(w.alloc (.cells #[.string c.k,.string c.v,.bool false] 215)).cell? ⟨w.heap.size,0,none⟩=some (.string c.k):=by simp
 have f1:(w.alloc (.cells #[.string c.k,.string c.v,.bool false] 215)).cell? ⟨w.heap.size,1,none⟩=some (.string c.v):=by simp
 go_enter Tryz.func192,Tryz.ntmps192
 go_wp2
 go_region_held3 (fun wy=>wy.cell? ⟨w.heap.size,0,none⟩=some (.string c.k)/\wy.cell? ⟨w.heap.size,1,none⟩=some (.string c.v)) (first|exact⟨p30,p31⟩|exact⟨p20,p21⟩|exact⟨f0,f1⟩|exact⟨by simp,by simp⟩)
  (first
   | (go_at_call 238;refine (K1 _ (hown.alloc _).drew (by simp;omega)).mono ?_;clear K1;rintro e w2 ⟨v2,rfl,hx2,hb2⟩;have p20:=(hb2.cell (p:=⟨w.heap.size,0,none⟩) (by simp) (fun e=>by have:=(hl _ e).2;simp at this)).trans f0;have p21:=(hb2.cell (p:=⟨w.heap.size,1,none⟩) (by simp) (fun e=>by have:=(hl _ e).2;simp at this)).trans f1;have hs2:=hb2.size)
   | (go_at_call 238;refine (K2 v2 _ hx2 (by simp at hs2;omega)).mono ?_;clear K2;rintro e w3 ⟨v3,rfl,hx3,hb3⟩;have hbx:=(hb2.block w.heap.size (by simp) (fun e=>by have:=(hl _ e).2;omega)).trans (heap_alloc_new w _);have hne:=ownBlock_ne hx2 hbx (by decide);have p30:=(hb3.cell (p:=⟨w.heap.size,0,none⟩) (by simp at hs2;simp;omega) (fun e=>hne e)).trans p20;have p31:=(hb3.cell (p:=⟨w.heap.size,1,none⟩) (by simp at hs2;simp;omega) (fun e=>hne e)).trans p21))
 go_wp2
 go_ret
 have hx2l:=hx2.lt
 exact⟨_,rfl,hx3,(((below_al (below_self w) _).drew.mono hB).trans (hb2.under (by simp;omega) (fun k hk e=>by have:=(hl k e).1;omega))).trans (hb3.under (by simp at hs2;omega) (fun k hk e=>by have:=(hx2l k e).1;omega))⟩
theorem appendChange (o:List UInt8) (c:Vs.Chg) (B:Nat) (v:Value) (w:World) (hB:B<=w.heap.size) (hown:w.ownsRow B 5 1 v o.length (byV o)) (ho:o.length<=1000) (hc:Vs.chW c=false) :
  Calls Tryz.prog 192 #[v,.agg #[.string c.k,.string c.v,.bool c.g]] w fun e w'=>∃ v',e=.returned v'/\w'.ownsRow B 5 1 v' (o++Vs.encC c).length (byV (o++Vs.encC c))/\Below B w w':=by
 cases hg:c.g
 ·have:=appendThere o c B v w hB hown ho hc hg;rw[hg] at this;exact this
 ·have:=appendGone o c B v w hB hown ho hc hg;rw[hg] at this;exact this
theorem encC_len {c:Vs.Chg} (hc:Vs.chW c=false):(Vs.encC c).length<=40:=by
 obtain⟨h1,h2,h3,h4⟩:=Vs.chW_ok hc
 unfold Vs.encC
 have a:=Vs.data_len c.k
 have b:=Vs.data_len c.v
 cases c.g <;> simp <;> omega
theorem encode_ok (l:List Vs.Chg) (p:Option Addr) (cp:Nat) (w:World) (hf:Vs.chF l=0) (hp:ChAt w p l) :
  Calls Tryz.prog 146 #[.slice p l.length cp] w fun e w'=>∃ v,e=.returned (.tuple #[v,.nilIface])/\w'.ownsRow w.heap.size 5 1 v (Vs.encL l).length (byV (Vs.encL l))/\Below w.heap.size w w':=by
 obtain⟨hl,hok⟩:=Vs.chF_ok hf
 have K:=check l p cp w (by omega) hp
 rw[hf,ev_0] at K
 obtain⟨N,hN⟩:∃ N,N=Vs.encL l:=⟨_,rfl⟩
 rw[<- hN]
 replace hN:Hid (N=[UInt8.ofNat l.length]++(l.drop 0).flatMap Vs.encC):=hN
 clear hf
 go_enter Tryz.func146,Tryz.ntmps146
 go_wp2_with (go_at_call 191;refine K.mono ?_;clear K;rintro e w1 ⟨rfl,hb1⟩)
 have hown1:(w1.alloc (.cells #[.int .u8 l.length] 5)).ownsRow w.heap.size 5 1 (.slice (some ⟨w1.heap.size,0,none⟩) 1 1) [UInt8.ofNat l.length].length (byV [UInt8.ofNat l.length]):=by
  have:=World.ownsRow_lit (base:=w.heap.size) (e:=5) (size:=1) w1 #[.int .u8 l.length] 1 hb1.size (by unfold maxLen;omega) rfl
  have e:byV [UInt8.ofNat l.length]=[.int .u8 l.length]:=by simp[byV];omega
  rw[e];exact this
 have hbA:Below w.heap.size w (w1.alloc (.cells #[.int .u8 l.length] 5)):=below_al hb1 _
 go_loopw [5,19] (fun v i wr=>∃ (k:Nat) (o:List UInt8),k<=l.length/\i=.int .i64 k/\Hid (N=o++(l.drop k).flatMap Vs.encC)/\Hid (o.length<=1+k*40)/\wr.ownsRow w.heap.size 5 1 v o.length (byV o)/\Below w.heap.size w wr) (fun _ i _=>l.length - (intOf i).toNat)
 case atStart=>exact⟨0,_,by omega,rfl,hN,by show _<=_;simp,hown1,hbA⟩
 case round=>
  clear hown1 hbA hN hb1
  obtain⟨k,o,hk,rfl,hM,hO,hown,hb⟩:=hrel
  have hws:=hb.size
  by_cases hlt:k<l.length
  ·have hlt':(k:Int)<(l.length:Int):=by omega
   obtain⟨b1,o1,rfl,hb1,hc1⟩:=hp (by omega)
   obtain⟨x,hx⟩:=Vs.chsome hlt
   obtain⟨d0,d1,d2⟩:=hc1 k x hx
   have e0:=(hb.cell (p:=⟨b1,o1+k*3,none⟩) hb1).trans d0
   have e1:=(hb.cell (p:=⟨b1,o1+k*3+1,none⟩) hb1).trans d1
   have e2:=(hb.cell (p:=⟨b1,o1+k*3+2,none⟩) hb1).trans d2
   have hxW:=hok x (List.mem_of_getElem? hx)
   have hel:=encC_len hxW
   have hD:Hid (N=(o++Vs.encC x)++(l.drop (k+1)).flatMap Vs.encC):=by
    show _=_
    rw[hM.out,Vs.drop_ch hx,List.flatMap_cons,List.append_assoc]
   have hO':o.length<=1+20*40:=by have:=hO.out;omega
   clear hM hc1 hx hp hok d0 d1 d2
   go_wp2_with (go_at_call 192;refine (appendChange o x w.heap.size _ _ (by simp;omega) (hown.alloc _) (by omega) hxW).mono ?_;rintro e w3 ⟨v3,rfl,hx3,hb3⟩)
   exact⟨⟨k+1,_,by omega,by go_num,hD,by show _<=_;have:=hO.out;simp;omega,hx3,(below_al hb _).trans hb3⟩,by simp[intOf];omega⟩
  ·have E:Hid (N=o):=by
    show _=_
    rw[hM.out,List.drop_eq_nil_of_le (by omega)];simp
   clear hM hp
   go_wp2
   go_ret2
   exact⟨_,rfl,by rw[E.out];exact hown,hb⟩
theorem encode (l:List Vs.Chg) (p:Option Addr) (cp:Nat) (w:World) (hl:l.length<=9223372036854775807) (hp:ChAt w p l) :
  Calls Tryz.prog 146 #[.slice p l.length cp] w fun e w'=>∃ (q:Option Addr) (cq:Nat),e=.returned (.tuple #[.slice q (Vs.enS l).length cq,ev (Vs.chF l)])/\ByAt w' q (Vs.enS l)/\(Vs.enS l).length<=cq/\Below w.heap.size w w':=by
 by_cases hf:Vs.chF l=0
 ·refine (encode_ok l p cp w hf hp).mono ?_
  rintro e w' ⟨v,rfl,hown,hb⟩
  rw[show Vs.enS l=Vs.encL l from by unfold Vs.enS;rw[if_pos hf],hf]
  rcases hown.2 with ⟨rfl,h1⟩|⟨g,cap,cur,rfl,_,hg,hcap,_⟩
  ·exact⟨none,0,by rw[h1];rfl,fun hp=>by omega,by omega,hb⟩
  ·exact⟨_,cap,rfl,(byAt_own hown).2,hcap,hb⟩
 ·rw[show Vs.enS l=[] from by unfold Vs.enS;rw[if_neg hf],ev_ne hf]
  have K:=check l p cp w hl hp
  rw[ev_ne hf] at K
  generalize Vs.chF l=z at K
  clear hf
  go_enter Tryz.func146,Tryz.ntmps146
  go_wp2_with (go_at_call 191;refine K.mono ?_;clear K;rintro e w1 ⟨rfl,hb1⟩)
  go_ret2
  exact⟨none,0,rfl,fun h=>by simp at h,by simp,hb1⟩
end Go.Proofs.YtcjdoeclblhaeaaGreatDoor
