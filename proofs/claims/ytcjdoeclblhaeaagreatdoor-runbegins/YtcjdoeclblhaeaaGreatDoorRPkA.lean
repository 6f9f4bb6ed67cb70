/- -/
import Derived.Test.YtcjdoeclblhaeaaGreatDoorRAdCutMath
import Derived.Test.YtcjdoeclblhaeaaGreatDoorRAdBase
import Derived.Test.YtcjdoeclblhaeaaGreatDoorRShelf
import Derived.Lib.DecodeN
import Derived.Test.YtcjdoeclblhaeaaGreatDoorRPkShelf
import Derived.Laws.BytesArg
set_option maxHeartbeats 4000000
set_option maxRecDepth 100000
namespace Bur
open Go
def oth (r:Nat):Bool:=decide (r<97) || decide (122<r)
theorem decodeN_big {n b0 b1 b2 b3:Nat} (h:128<=b0):128<=(Lib.decodeN n b0 b1 b2 b3).1:=by
 unfold Lib.decodeN
 rw[if_neg (by omega)]
 repeat' split
 all_goals simp
 all_goals omega
theorem get_at {s:ByteArray} {i:Nat} (h:i<s.size):s.get! i=s[i]:=by
 unfold ByteArray.get!
 exact (getElem!_pos s.data i h)
theorem dec_lz {s:ByteArray} {i:Nat} (h:i<s.size) (hz:lz s[i]=true):Utf8.decode s i=(s[i].toNat,1):=by
 have h2:s[i].toNat<128:=by
  simp only [lz,Bool.and_eq_true,decide_eq_true_eq] at hz
  omega
 rw[Lib.decode_at,get_at h]
 unfold Lib.decodeN
 rw[if_pos h2]
theorem dec_oth {s:ByteArray} {i:Nat} (h:i<s.size) (hz:lz s[i]=false):oth (Utf8.decode s i).1=true:=by
 rw[Lib.decode_at,get_at h]
 simp only [lz,Bool.and_eq_false_iff,decide_eq_false_iff_not] at hz
 by_cases h2:s[i].toNat<128
 ·unfold Lib.decodeN
  rw[if_pos h2]
  simp only [oth,Bool.or_eq_true,decide_eq_true_eq]
  omega
 ·have:=decodeN_big (n:=s.size - i) (b1:=(s.get! (i+1)).toNat) (b2:=(s.get! (i+2)).toNat) (b3:=(s.get! (i+3)).toNat) (Nat.le_of_not_lt h2)
  simp only [oth,Bool.or_eq_true,decide_eq_true_eq]
  omega
theorem drop_at (s:ByteArray) (k:Nat) (h:k<s.size):s.data.toList.drop k=s[k] :: s.data.toList.drop (k+1):=by
 have h':k<s.data.toList.length:=by simpa using h
 rw[List.drop_eq_getElem_cons h']
 rfl
theorem idx_from (s:ByteArray):∀ (f pos:Nat),s.size<=pos+f->decide (0<=Lib.idxFuncFrom oth true s f pos) = !((s.data.toList.drop pos).all lz)
 | 0,pos,h=>by
  rw[Lib.idxFuncFrom,List.drop_of_length_le (by simp;omega)];rfl
 | f+1,pos,h=>by
  rw[Lib.idxFuncFrom]
  by_cases hp:pos<s.size
  ·rw[if_pos hp,drop_at s pos hp,List.all_cons]
   cases hz:lz s[pos] with
   | true=>
    have e:=dec_lz hp hz
    have ho:oth s[pos].toNat=false:=by
     simp only [lz,Bool.and_eq_true,decide_eq_true_eq] at hz
     simp only [oth,Bool.or_eq_false_iff,decide_eq_false_iff_not]
     omega
    rw[e]
    simp only
    rw[ho,if_neg (by decide),idx_from s f (pos+1) (by omega),Bool.true_and]
   | false=>
    rw[dec_oth hp hz,if_pos rfl,Bool.false_and]
    simp
  ·rw[if_neg hp,List.drop_of_length_le (by simp;omega)];rfl
theorem idx_oth (s:ByteArray):decide (0<=Lib.idxFunc oth true s) = !(s.data.toList.all lz):=idx_from s s.size 0 (by omega)
def nmF (l:List UInt8):Int:=if isN l=true then 0 else 5
end Bur
namespace Go.Proofs.YtcjdoeclblhaeaaGreatDoor.Pa
open Go.RowKit
theorem str_e (t:ByteArray):t.toList.isEmpty=decide (t.size=0):=by
 by_cases h:t.size=0
 ·have:t=ByteArray.empty:=ByteArray.ext (Array.eq_empty_of_size_eq_zero h)
  subst this
  rw[decide_eq_true h,Lib.toList_data];rfl
 ·rw[decide_eq_false h,Lib.toList_data]
  cases e:t.data.toList with
  | nil=>exact absurd (by have:t.data.toList.length=0:=by rw[e];rfl
                          simpa using this) h
  | cons x r=>rfl
theorem pkOther (r:Nat) (w:World):Calls Tryz.prog 98 #[.int .i32 (r:Int)] w fun e w'=>e=.returned (.bool (Bur.oth r)) /\ ∃ q,w'=w.drewN q:=by
 have e1:decide ((r:Int)<97)=decide (r<97):=decide_eq_decide.2 (by omega)
 have e2:decide (122<(r:Int))=decide (122<r):=decide_eq_decide.2 (by omega)
 unfold Bur.oth
 by_cases h1:r<97
 ·have h1':(r:Int)<97:=by omega
  rw[decide_eq_true h1,Bool.true_or]
  clear e1 e2 h1
  go_enter Tryz.func98,Tryz.ntmps98
  go_wp2
  go_ret
  exact⟨rfl,0,rfl⟩
 ·have h1':¬ (r:Int)<97:=by omega
  rw[decide_eq_false h1,Bool.false_or,<- e2]
  clear e1 e2 h1
  go_enter Tryz.func98,Tryz.ntmps98
  go_wp2
  go_ret
  exact⟨rfl,0,rfl⟩
theorem plName (s:ByteArray) (w:World):Calls Tryz.prog 71 #[.string s] w fun e w'=>e=.returned (ev (Bur.nmF s.data.toList))/\Below w.heap.size w w':=by
 have hsz:s.data.toList.length=s.size:=by simp
 have hE:=str_e s
 unfold Bur.nmF Bur.isN
 rw[hsz]
 by_cases h0:s.size=0
 ·rw[decide_eq_true h0] at hE
  rw[if_neg (by simp[h0]),ev_ne (by decide)]
  clear h0 hsz
  go_enter Tryz.func71,Tryz.ntmps71
  go_wp2
  go_ret
  exact⟨rfl,below_self _⟩
 ·rw[decide_eq_false h0] at hE
  by_cases h8:8<s.size
  ·have h8':(8:Int)<(s.size:Int):=by omega
   rw[if_neg (by simp;omega),ev_ne (by decide)]
   clear h0 hsz
   go_enter Tryz.func71,Tryz.ntmps71
   go_wp2
   go_ret
   exact⟨rfl,below_self _⟩
  ·have h8':¬ (8:Int)<(s.size:Int):=by omega
   have hC:=fun W:World=>Tryz.strings_ContainsFunc 98 #[] (enters_of Tryz.func98 (by kernel_rfl) rfl) Bur.oth s W (fun W' x _=>pkOther x W')
   simp only [Bur.idx_oth] at hC
   rw[decide_eq_true (show 0<s.size by omega),decide_eq_true (show s.size<=8 by omega),Bool.true_and,Bool.true_and]
   cases ha:s.data.toList.all Bur.lz with
   | true=>
    rw[ha] at hC
    rw[if_pos rfl,ev_0]
    clear h0 hsz h8 ha
    go_enter Tryz.func71,Tryz.ntmps71
    go_wp2_with fail
    refine (hC _).mono ?_
    rintro e w1 ⟨rfl,hb1⟩
    go_wp2
    go_ret
    exact⟨rfl,hb1⟩
   | false=>
    rw[ha] at hC
    rw[if_neg (by simp),ev_ne (by decide)]
    clear h0 hsz h8 ha
    go_enter Tryz.func71,Tryz.ntmps71
    go_wp2_with fail
    refine (hC _).mono ?_
    rintro e w1 ⟨rfl,hb1⟩
    go_wp2
    go_ret
    exact⟨rfl,hb1⟩
end Go.Proofs.YtcjdoeclblhaeaaGreatDoor.Pa
namespace Bur
end Bur
namespace Go.Proofs.YtcjdoeclblhaeaaGreatDoor.Pa
open Go.RowKit
theorem cat {x y z:List UInt8} (h:z=x++y) (hx:x.length<=1000000) (hy:y.length<=1000000):∀ w:World,(Op.stringOp .add ⟨x.toArray⟩ ⟨y.toArray⟩).run Tryz.prog w=.ok (.string ⟨z.toArray⟩) w:=by
 intro w
 subst h
 exact run_string_add_lists w x y (by omega) (by omega)
theorem bytes_eq (s:ByteArray):(⟨s.data.toList.toArray⟩:ByteArray)=s:=by simp
abbrev hexs:Value:=.string ⟨#[48,49,50,51,52,53,54,55,56,57,97,98,99,100,101,102]⟩
end Go.Proofs.YtcjdoeclblhaeaaGreatDoor.Pa
namespace Bur
theorem hxM_len {n:Nat} (h:n<4294967296):(hxM n).length<=8:=(hx_pad 8 n (by decide) (by simpa using h)).1
end Bur
namespace Go.Proofs.YtcjdoeclblhaeaaGreatDoor.Pa
open Go.RowKit Go.Lib Go.Shelf
abbrev Tab (w:World):Prop:=TabAt 8 Lib.deBruijn64tab w
theorem Tab.lt {w:World} (h:Tab w):8<w.heap.size:=by
 have:=World.block_lt_of_cell? _ _ (h 0 (by decide))
 exact this
theorem Tab.step {w w':World} (h:Tab w) (hb:Below w.heap.size w w'):Tab w':=fun j hj=>(hb.cell (p:=⟨8,j,none⟩) h.lt).trans (h j hj)
theorem pkTz (w:World) (hT:Tab w):Calls Tryz.prog 177 #[.int .u64 16] w fun e w'=>e=.returned (.int .i64 4)/\w'=w:=by
 have:=Any7.bits_TrailingZeros Tryz.layTzP 16 (by decide) w (fun _=>hT)
 rwa [show (Lib.ctz 64 16:Int)=4 from by decide] at this
theorem pkPow (w:World):Calls Tryz.prog 176 #[.int .i64 16] w fun e w'=>e=.returned (.bool true)/\w'=w:=by
 go_enter Tryz.func176,Tryz.ntmps176
 go_wp2
 go_ret
 exact⟨rfl,rfl⟩
theorem and15 (q:Int) (h0:0<=q) (h:q<4294967296):bits .and .u64 q 15=q % 16:=by
 have h:=bits_mask .u64 63 (by decide) (fun n _ _=>by rw[IntKind.wrap_u64];omega) 4 (by decide) q h0 (by omega)
 have e:((2:Int) ^ 4 - 1)=15:=by decide
 have e2:((2:Int) ^ 4)=16:=by decide
 rw[e,e2] at h
 exact h
abbrev alnum:Value:=.string ⟨#[48,49,50,51,52,53,54,55,56,57,97,98,99,100,101,102,103,104,105,106,107,108,109,110,111,112,113,114,115,116,117,118,119,120,121,122]⟩
theorem aidx (k:Nat) (h:k<16):∀ w:World,(Instr.index 9 alnum (.int .u64 (k:Int))).run Tryz.prog w=.ok (.int .u8 (Bur.hd k).toNat) w:=by
 have:k=0 \/ k=1 \/ k=2 \/ k=3 \/ k=4 \/ k=5 \/ k=6 \/ k=7 \/ k=8 \/ k=9 \/ k=10 \/ k=11 \/ k=12 \/ k=13 \/ k=14 \/ k=15:=by omega
 intro w
 rcases this with rfl|rfl|rfl|rfl|rfl|rfl|rfl|rfl|rfl|rfl|rfl|rfl|rfl|rfl|rfl|rfl <;> kernel_rfl
structure Fb (w:World) (b:Nat) (ds:List UInt8):Prop where
 all:∀ j,j<65->(∃ z,w.cell? ⟨b,j,none⟩=some (.int .u8 z))/\w.frozen? ⟨b,j,none⟩=false
 got:∀ (m:Nat) (x:UInt8),ds[m]? = some x->w.cell? ⟨b,65 - ds.length+m,none⟩=some (.int .u8 x.toNat)
theorem Fb.new (w:World):Fb (w.alloc (.cells Tryz.zeroCells256 256)) w.heap.size []:=by
 refine⟨fun j hj=>?_,fun m x h=>by simp at h⟩
 have hz:Tryz.zeroCells256=Array.replicate 65 (.int .u8 0):=by kernel_rfl
 rw[hz]
 exact⟨⟨0,by simp[hj]⟩,by simp⟩
theorem Fb.lt {w:World} {b:Nat} {ds:List UInt8} (h:Fb w b ds):b<w.heap.size:=by
 obtain⟨⟨z,hz⟩,_⟩:=h.all 0 (by decide)
 exact World.block_lt_of_cell? _ _ hz
theorem Fb.put {w:World} {b:Nat} {ds:List UInt8} (h:Fb w b ds) (x:UInt8) (hl:ds.length<65):Fb (w.setCell ⟨b,65 - ds.length - 1,none⟩ (.int .u8 x.toNat)) b (x :: ds):=by
 obtain⟨⟨z0,hz0⟩,hf0⟩:=h.all (65 - ds.length - 1) (by omega)
 have hsame:∀ j,j≠65 - ds.length - 1->(w.setCell ⟨b,65 - ds.length - 1,none⟩ (.int .u8 x.toNat)).cell? ⟨b,j,none⟩=w.cell? ⟨b,j,none⟩:=fun j hj=>by
  go_simp
 refine⟨fun j hj=>?_,fun m y hm=>?_⟩
 ·obtain⟨⟨z,hz⟩,hf⟩:=h.all j hj
  refine⟨?_,?_⟩
  ·by_cases e:j=65 - ds.length - 1
   ·subst e;exact⟨(x.toNat:Int),by go_simp⟩
   ·exact⟨z,(hsame j e).trans hz⟩
  ·by_cases e:j=65 - ds.length - 1
   ·subst e;go_simp
   ·go_simp
 ·rw[List.length_cons]
  cases m with
  | zero=>
   have:y=x:=by simpa using hm.symm
   subst this
   rw[Nat.add_zero,show 65 - (ds.length+1)=65 - ds.length - 1 from by omega]
   go_simp
  | succ m=>
   have hm':ds[m]? = some y:=by simpa using hm
   have hlm:=(List.getElem?_eq_some_iff.1 hm').1
   rw[show 65 - (ds.length+1)+(m+1)=65 - ds.length+m from by omega,hsame _ (by omega)]
   exact h.got m y hm'
theorem fbStr {w:World} {b:Nat} {ds:List UInt8} (h:Fb w b ds) (off n cap:Nat) (ho:off=65 - ds.length) (hn:n=ds.length):(convert 30 9 (.slice (some ⟨b,off,none⟩) n cap)).run Tryz.prog w=.ok (.string ⟨ds.toArray⟩) w:=by
 subst ho hn
 have hlen:(ds.map (fun x=>(x.toNat:Int))).length=ds.length:=by simp
 have:=run_convert_bytes_arg (P:=Tryz.prog) w 30 5 Tryz.underlying30 Tryz.underlying5 b (65 - ds.length) ds.length cap (ds.map (fun x=>(x.toNat:Int))) hlen (fun j hj=>by
  rw[h.got j ds[j] (List.getElem?_eq_getElem hj)]
  simp[List.getD,hj]) 9 Tryz.underlying9
 have hid:((fun n:Int=>UInt8.ofNat n.toNat) ∘ fun x:UInt8=>(x.toNat:Int))=id:=by funext x;simp
 rw[this,strOfNums,List.map_map,hid,List.map_id]
theorem pkFmtBits (n:Nat) (hn:n<4294967296) (w:World) (h:Tab w):Calls Tryz.prog 125 #[.slice none 0 0,.int .u64 (n:Int),.int .i64 16,.bool false,.bool false] w fun e w'=>e=.returned (.tuple #[.slice none 0 0,.string ⟨(Bur.hxM n).toArray⟩])/\Below w.heap.size w w':=by
 have hb0:=below_al (below_self w) (.cells Tryz.zeroCells256 256)
 have hT:=h.step hb0
 have fb0:=Fb.new w
 have hl8:=Bur.hxM_len hn
 go_enter Tryz.func125,Tryz.ntmps125
 go_wp2_with (first
  | (go_at_call 176;refine (pkPow _).mono ?_;rintro e w1 ⟨rfl,rfl⟩)
  | (go_at_call 177;refine (pkTz _ hT).mono ?_;rintro e w1 ⟨rfl,rfl⟩))
 go_loopw [1,13] (fun u i wr=>∃ (q:Nat) (ds:List UInt8) (iv:Int),u=.int .u64 (q:Int)/\i=.int .i64 iv/\Hid (iv=65 - ds.length)/\57<=iv/\iv<=65/\q<4294967296/\Hid (Bur.hxM n=Bur.hxM q++ds)/\Fb wr w.heap.size ds/\Below w.heap.size w wr) (fun u _ _=>(intOf u).toNat)
 case atStart=>exact⟨n,[],65,rfl,rfl,rfl,by omega,by omega,hn,by show _=_;simp,fb0,hb0⟩
 case round=>
  obtain⟨q,ds,iv,rfl,rfl,hiv,i0,i1,hq,hx,fb,hb⟩:=hrel
  clear fb0 hb0 hT
  have hpos:=Bur.hxM_pos q
  have hlen:(Bur.hxM q).length+ds.length<=8:=by rw[<- List.length_append,<- hx.out];exact hl8
  have hiv':=hiv.out
  obtain⟨J,rfl⟩:∃ J:Nat,iv=(J:Int)+1:=⟨(iv - 1).toNat,by omega⟩
  have hJ:J=65 - ds.length - 1:=by omega
  have hJ65:(J:Int)<65:=by omega
  obtain⟨⟨z0,hz0⟩,hf0⟩:=fb.all J (by omega)
  have hbw:=fb.lt
  by_cases h16:q<16
  ·have h16':¬ (16:Int)<=(q:Int):=by omega
   have hai:=aidx q h16
   have fb2:=fb.put (Bur.hd q) (by omega)
   rw[<- hJ] at fb2
   have hfin:Hid (Bur.hxM n=Bur.hd q :: ds):=by show _=_;rw[hx.out,Bur.hxM_small h16];rfl
   have hcv:=fun cap=>fbStr fb2 J (65 - J) cap (by rw[List.length_cons];omega) (by rw[List.length_cons];omega)
   have hJl:(J:Int)<=65:=by omega
   have hbe:Below w.heap.size w (wr.setCell ⟨w.heap.size,J,none⟩ (.int .u8 (Bur.hd q).toNat)):=hb.setCell (Nat.le_refl _) _
   clear hx hiv hiv' hlen hpos fb hJ
   generalize Bur.hd q=c at *
   go_wp2
   go_ret2
   exact⟨by rw[hfin.out];rfl,hbe⟩
  ·have h16':(16:Int)<=(q:Int):=by omega
   obtain⟨k,hk⟩:∃ k:Nat,k=q % 16:=⟨_,rfl⟩
   have hk16:k<16:=by omega
   have hnd:bits .and .u64 (q:Int) 15=(k:Int):=by rw[and15 (q:Int) (by omega) (by omega)];omega
   have hai:=aidx k hk16
   have fb2:=fb.put (Bur.hd k) (by omega)
   rw[<- hJ] at fb2
   have hx2:Hid (Bur.hxM n=Bur.hxM (q / 16)++(Bur.hd k :: ds)):=by show _=_;rw[hx.out,Bur.hxM_big h16,hk];simp
   have hl2:Hid ((J:Int)=65 - ((Bur.hd k :: ds).length:Nat)):=by show _=_;rw[List.length_cons];omega
   have hbe:Below w.heap.size w (wr.setCell ⟨w.heap.size,J,none⟩ (.int .u8 (Bur.hd k).toNat)):=hb.setCell (Nat.le_refl _) _
   have hlen2:57<=(J:Int):=by
    have h2:=Bur.hxM_pos (q / 16)
    have h3:(Bur.hxM (q / 16)).length+(ds.length+1)<=8:=by
     have:=hl8
     rw[hx2.out,List.length_append,List.length_cons] at this
     exact this
    omega
   clear hx hiv hiv' hlen hpos fb hJ hk
   go_wp2
   exact⟨⟨q / 16,Bur.hd k :: ds,J,by go_num,by go_num,hl2,hlen2,by omega,by omega,hx2,fb2,hbe⟩,by simp[intOf];omega⟩
theorem pkFmtI (n:Nat) (hn:n<4294967296) (w:World) (h:Tab w):Calls Tryz.prog 93 #[.int .i64 (n:Int),.int .i64 16] w fun e w'=>e=.returned (.string ⟨(Bur.hxM n).toArray⟩)/\Below w.heap.size w w':=by
 go_enter Tryz.func93,Tryz.ntmps93
 go_wp2_with (go_at_call 125;refine (pkFmtBits n hn _ h).mono ?_;rintro e w1 ⟨rfl,hb1⟩)
 go_ret
 exact⟨rfl,hb1⟩
theorem pkFmt (n:Nat) (hn:n<4294967296) (w:World) (h:Tab w):Calls Tryz.prog 281 #[.int .i64 (n:Int),.int .i64 16] w fun e w'=>e=.returned (.string ⟨(Bur.hxM n).toArray⟩)/\Below w.heap.size w w':=by
 go_enter Tryz.func281,Tryz.ntmps281
 go_wp2_with (go_at_call 93;refine (pkFmtI n hn _ h).mono ?_;rintro e w1 ⟨rfl,hb1⟩)
 go_ret
 exact⟨rfl,hb1⟩
theorem rep48:∀ (c:Nat),Lib.repeatL [48] c=List.replicate c 48
 | 0=>rfl
 | c+1=>by rw[Lib.repeatL,rep48 c];rfl
theorem pkRep (c:Nat) (hc:c<=8) (w:World):Calls Tryz.prog 95 #[.string ⟨#[48]⟩,.int .i64 (c:Int)] w fun e w'=>e=.returned (.string ⟨(List.replicate c (48:UInt8)).toArray⟩)/\Below w.heap.size w w':=by
 have:=Tryz.strings_Repeat ⟨#[48]⟩ c w (by omega) (by show 1*c<=_;omega)
 rw[show (ByteArray.mk #[48]).data.toList=[48] from rfl,rep48] at this
 exact this
end Go.Proofs.YtcjdoeclblhaeaaGreatDoor.Pa
namespace Bur
theorem d2_pad:∀ n:Fin 100,(Go.Lib.decDigits n.val).length<=2/\d2 (n.val:Int)=List.replicate (2 - (Go.Lib.decDigits n.val).length) 48++Go.Lib.decDigits n.val:=by decide +kernel
end Bur
namespace Go.Proofs.YtcjdoeclblhaeaaGreatDoor.Pa
open Go.RowKit
theorem rep_app (c:Nat) (l:List UInt8):({ data:=Array.replicate c 48 } ++ { data:=l.toArray }:ByteArray)=⟨(List.replicate c 48++l).toArray⟩:=by
 apply ByteArray.ext
 simp
theorem plWrite16 (n:Nat) (hn:n<4294967296) (w:World) (h:Tab w):Calls Tryz.prog 251 #[.int .i64 (n:Int),.int .i64 16,.int .i64 8] w fun e w'=>e=.returned (.string ⟨(Bur.hxK 8 n).toArray⟩)/\Below w.heap.size w w':=by
 obtain⟨hl,hp⟩:=Bur.hx_pad 8 n (by decide) (by simpa using hn)
 have hF:=fun W hT=>pkFmt n hn W hT
 rw[hp]
 clear hp
 generalize Bur.hxM n=l at *
 obtain⟨c,hc⟩:∃ c:Nat,c=8 - l.length:=⟨_,rfl⟩
 have hci:(8:Int) - (l.length:Int)=(c:Int):=by omega
 have hR:=fun W=>pkRep c (by omega) W
 rw[<- hc,<- rep_app]
 clear hc
 go_enter Tryz.func251,Tryz.ntmps251
 go_wp2_with (first
  | (go_at_call 281;refine (hF _ h).mono ?_;rintro e w1 ⟨rfl,hb1⟩)
  | (go_at_call 95;refine (hR _).mono ?_;rintro e w2 ⟨rfl,hb2⟩))
 go_ret
 exact⟨rfl,below_via hb1 hb2⟩
theorem plWrite10 (n:Nat) (hn:n<100) (w:World):Calls Tryz.prog 251 #[.int .i64 (n:Int),.int .i64 10,.int .i64 2] w fun e w'=>e=.returned (.string ⟨(Bur.d2 (n:Int)).toArray⟩)/\Below w.heap.size w w':=by
 obtain⟨hl,hp⟩:=Bur.d2_pad ⟨n,hn⟩
 simp only at hl hp
 have hF:=fun W=>Tryz.strconv_FormatInt_10_small n hn W
 rw[hp]
 clear hp
 generalize Lib.decDigits n=l at *
 obtain⟨c,hc⟩:∃ c:Nat,c=2 - l.length:=⟨_,rfl⟩
 have hci:(2:Int) - (l.length:Int)=(c:Int):=by omega
 have hR:=fun W=>pkRep c (by omega) W
 rw[<- hc,<- rep_app]
 clear hc
 go_enter Tryz.func251,Tryz.ntmps251
 go_wp2_with (first
  | (go_at_call 281;refine (hF _).mono ?_;rintro e w1 ⟨rfl,rfl⟩)
  | (go_at_call 95;refine (hR _).mono ?_;rintro e w2 ⟨rfl,hb2⟩))
 go_ret
 exact⟨rfl,hb2⟩
theorem plHead (k:List UInt8) (s:ByteArray) (w:World) (hk:k.length<=2) (hs:s.size<=1000):Calls Tryz.prog 250 #[.string ⟨k.toArray⟩,.string s] w fun e w'=>e=.returned (.string ⟨(k++s.data.toList ++ [47]).toArray⟩)/\w'=w:=by
 have hl:s.data.toList.length<=1000:=by simpa using hs
 obtain⟨z1,Z1⟩:∃ z:List UInt8,Hid (z=k++s.data.toList):=⟨k++s.data.toList,Eq.refl _⟩
 have e1:=cat (x:=k) (y:=s.data.toList) Z1.out (by omega) (by omega)
 have l1:z1.length<=1002:=by rw[Z1.out];simp;omega
 obtain⟨z2,Z2⟩:∃ z:List UInt8,Hid (z=z1 ++ [47]):=⟨z1 ++ [47],Eq.refl _⟩
 have e2:∀ w:World,(Op.stringOp .add ⟨z1.toArray⟩ ⟨#[47]⟩).run Tryz.prog w=.ok (.string ⟨z2.toArray⟩) w:=cat (x:=z1) (y:=[47]) Z2.out (by omega) (by simp)
 have hZ:Hid (k++s.data.toList ++ [47]=z2):=by show _=_;rw[Z2.out,Z1.out]
 rw[bytes_eq] at e1
 rw[hZ.out]
 clear l1 Z1 Z2 hl
 go_enter Tryz.func250,Tryz.ntmps250
 go_wp2
 go_ret
 exact⟨rfl,rfl⟩
theorem plNetKey (s:ByteArray) (w:World) (hs:s.size<=1000):Calls Tryz.prog 68 #[.string s] w fun e w'=>e=.returned (.string ⟨(Bur.netK s.data.toList).toArray⟩)/\w'=w:=by
 have hl:s.data.toList.length<=1000:=by simpa using hs
 obtain⟨z1,Z1⟩:∃ z:List UInt8,Hid (z=[110,47]++s.data.toList):=⟨[110,47]++s.data.toList,Eq.refl _⟩
 have e1:∀ w:World,(Op.stringOp .add ⟨#[110,47]⟩ ⟨s.data.toList.toArray⟩).run Tryz.prog w=.ok (.string ⟨z1.toArray⟩) w:=cat (x:=[110,47]) (y:=s.data.toList) Z1.out (by simp) (by omega)
 rw[bytes_eq] at e1
 go_enter Tryz.func68,Tryz.ntmps68
 go_wp2
 go_ret
 exact⟨by rw[Bur.netK,<- Z1.out];rfl,rfl⟩
theorem plAddrKey (s:ByteArray) (a:Int) (w:World) (h:Tab w) (hs:s.size<=1000) (h0:0<=a) (h1:a<=4294967295):Calls Tryz.prog 215 #[.string s,.int .i64 a] w fun e w'=>e=.returned (.string ⟨(Bur.adrK s.data.toList a).toArray⟩)/\Below w.heap.size w w':=by
 obtain⟨n,rfl⟩:∃ n:Nat,a=n:=⟨a.toNat,by omega⟩
 have hl:s.data.toList.length<=1000:=by simpa using hs
 have l8:=Bur.hxK_len 8 n
 have hH:=fun W=>plHead [97,47] s W (by simp) hs
 have hW:=fun W hT=>plWrite16 n (by omega) W hT
 obtain⟨z0,Z0⟩:∃ z:List UInt8,Hid (z=[97,47]++s.data.toList ++ [47]):=⟨[97,47]++s.data.toList ++ [47],Eq.refl _⟩
 have l0:z0.length<=1003:=by rw[Z0.out];simp;omega
 rw[<- Z0.out] at hH
 obtain⟨z1,Z1⟩:∃ z:List UInt8,Hid (z=z0++Bur.hxK 8 n):=⟨_,Eq.refl _⟩
 have e1:=cat (x:=z0) (y:=Bur.hxK 8 n) Z1.out (by omega) (by omega)
 have hZ:Hid (Bur.adrK s.data.toList (n:Int)=z1):=by show _=_;rw[Z1.out,Z0.out];rfl
 rw[hZ.out]
 generalize Bur.hxK 8 n=hx at *
 clear l8 l0 hl Z0 Z1
 go_enter Tryz.func215,Tryz.ntmps215
 go_wp2_with (first
  | (go_at_call 250;refine (hH _).mono ?_;rintro e w1 ⟨rfl,rfl⟩)
  | (go_at_call 251;refine (hW _ h).mono ?_;rintro e w2 ⟨rfl,hb2⟩))
 go_ret
 exact⟨rfl,hb2⟩
end Go.Proofs.YtcjdoeclblhaeaaGreatDoor.Pa
namespace Go.Proofs.YtcjdoeclblhaeaaGreatDoor.Pa
open Go.RowKit
theorem cell_lat {w w':World} {p:Addr} {v:Value} (hb:Below w.heap.size w w') (h:w.cell? p=some v):w'.cell? p=some v:=(hb.cell (World.block_lt_of_cell? _ _ h)).trans h
theorem plPrefixKey (s:ByteArray) (a l:Int) (w:World) (h:Tab w) (hs:s.size<=1000) (h0:0<=a) (h1:a<=4294967295) (g0:0<=l) (g1:l<100):Calls Tryz.prog 205 #[.string s,pfx a l] w fun e w'=>e=.returned (.string ⟨(Bur.pfxK s.data.toList a l).toArray⟩)/\Below w.heap.size w w':=by
 obtain⟨n,rfl⟩:∃ n:Nat,a=n:=⟨a.toNat,by omega⟩
 obtain⟨m,rfl⟩:∃ m:Nat,l=m:=⟨l.toNat,by omega⟩
 have hl:s.data.toList.length<=1000:=by simpa using hs
 have l8:=Bur.hxK_len 8 n
 have l2:(Bur.d2 (m:Int)).length=2:=rfl
 have hH:=fun W=>plHead [112,47] s W (by simp) hs
 have hW:=fun W hT=>plWrite16 n (by omega) W hT
 have hD:=fun W=>plWrite10 m (by omega) W
 obtain⟨z0,Z0⟩:∃ z:List UInt8,Hid (z=[112,47]++s.data.toList ++ [47]):=⟨[112,47]++s.data.toList ++ [47],Eq.refl _⟩
 have l0:z0.length<=1003:=by rw[Z0.out];simp;omega
 rw[<- Z0.out] at hH
 obtain⟨z1,Z1⟩:∃ z:List UInt8,Hid (z=z0++Bur.hxK 8 n):=⟨_,Eq.refl _⟩
 have e1:=cat (x:=z0) (y:=Bur.hxK 8 n) Z1.out (by omega) (by omega)
 have l1:z1.length<=1011:=by rw[Z1.out,List.length_append];omega
 obtain⟨z2,Z2⟩:∃ z:List UInt8,Hid (z=z1++Bur.d2 (m:Int)):=⟨_,Eq.refl _⟩
 have e2:=cat (x:=z1) (y:=Bur.d2 (m:Int)) Z2.out (by omega) (by omega)
 have hZ:Hid (Bur.pfxK s.data.toList (n:Int) (m:Int)=z2):=by show _=_;rw[Z2.out,Z1.out,Z0.out];rfl
 rw[hZ.out]
 have hb0:=below_al (below_self w) (pcs (n:Int) (m:Int))
 have hT:=h.step hb0
 have k0:(w.alloc (pcs (n:Int) (m:Int))).cell? ⟨w.heap.size,0,none⟩=some (.int .i64 (n:Int)):=by simp
 have k1:(w.alloc (pcs (n:Int) (m:Int))).cell? ⟨w.heap.size,1,none⟩=some (.int .i64 (m:Int)):=by simp
 generalize Bur.hxK 8 n=hx at *
 generalize Bur.d2 (m:Int)=dx at *
 clear l8 l2 l0 l1 hl Z0 Z1 Z2
 go_enter Tryz.func205,Tryz.ntmps205
 go_wp2
 go_region_held3 (fun w2=>w2.cell? ⟨w.heap.size,0,none⟩=some (.int .i64 (n:Int))/\w2.cell? ⟨w.heap.size,1,none⟩=some (.int .i64 (m:Int))) (go_simp)
  (first
   | (go_at_call 250;refine (hH _).mono ?_;rintro e w1 ⟨rfl,rfl⟩)
   | (go_at_call_of 251 (Value.int IntKind.i64 16);refine (hW _ (by exact hT)).mono ?_;rintro e w2 ⟨rfl,hb2⟩;have q0:=cell_lat hb2 k0;have q1:=cell_lat hb2 k1)
   | (go_at_call_of 251 (Value.int IntKind.i64 10);refine (hD _).mono ?_;rintro e w3 ⟨rfl,hb3⟩;have q2:=cell_lat hb3 q0;have q3:=cell_lat hb3 q1))
 go_wp2
 go_ret
 exact⟨rfl,below_via (below_via hb0.drew hb2) hb3⟩
end Go.Proofs.YtcjdoeclblhaeaaGreatDoor.Pa
namespace Bur
theorem ix16:∀ n:Fin 256,Go.Lib.indexByte [48,49,50,51,52,53,54,55,56,57,97,98,99,100,101,102] (UInt8.ofNat n.val)=(hxv (UInt8.ofNat n.val)).getD (-1):=by decide +kernel
theorem ix10:∀ n:Fin 256,Go.Lib.indexByte [48,49,50,51,52,53,54,55,56,57] (UInt8.ofNat n.val)=(dv (UInt8.ofNat n.val)).getD (-1):=by decide +kernel
theorem ix_all {P:UInt8->Prop} (h:∀ n:Fin 256,P (UInt8.ofNat n.val)) (b:UInt8):P b:=by
 have:=h ⟨b.toNat,b.toNat_lt⟩
 simpa using this
def rdN (r:Option Int):Int:=r.getD 0
end Bur
namespace Go.Proofs.YtcjdoeclblhaeaaGreatDoor.Pa
open Go.RowKit
theorem plRead (base:Int) (f:UInt8->Option Int) (ds:ByteArray) (hb16:base=16 \/ base=10) (hsl:∀ w:World,(Instr.slice 9 hexs none (some (.int .i64 base)) none).run Tryz.prog w=.ok (.string ds) w) (hix:∀ b:UInt8,Lib.indexByte ds.data.toList b=(f b).getD (-1)) (hf:∀ b d,f b=some d->0<=d/\d<base)
  (s:ByteArray) (w:World) (hs:s.size<=8):Calls Tryz.prog 284 #[.string s,.int .i64 base] w fun e w'=>e=.returned (.tuple #[.int .i64 (Bur.rdN (Bur.rx f base 0 s.data.toList)),.bool (Bur.rx f base 0 s.data.toList).isSome])/\Below w.heap.size w w':=by
 obtain⟨R,hR⟩:∃ R,R=Bur.rx f base 0 s.data.toList:=⟨_,rfl⟩
 have hR0:Hid (R=Bur.rx f base 0 (s.data.toList.drop 0)):=hR
 rw[<- hR]
 have hbb:2<=base/\base<=16:=by omega
 obtain⟨bb0,bb1⟩:=hbb
 clear hR hb16
 go_enter Tryz.func284,Tryz.ntmps284
 go_wp2
 go_loopw [4,5,6,7,10] (fun n ok _ _ i wr=>∃ (k:Nat) (m:Int),k<=s.size/\i=.int .i64 k/\n=.int .i64 m/\ok=.bool false/\0<=m/\Hid (m<16 ^ k)/\Hid (R=Bur.rx f base m (s.data.toList.drop k))/\Below w.heap.size w wr) (fun _ _ _ _ i _=>s.size - (intOf i).toNat)
 case atStart=>exact⟨0,0,by omega,rfl,rfl,rfl,by omega,by show (0:Int)<16 ^ 0;decide,hR0,below_self _⟩
 case round=>
  obtain⟨k,m,hk,rfl,rfl,rfl,m0,m1,hM,hb⟩:=hrel
  clear hR0
  by_cases hlt:k<s.size
  ·have hlt':(k:Int)<(s.size:Int):=by omega
   have mb:m<=268435455:=by
    have h1:=m1.out
    have h2:(16:Int) ^ k<=16 ^ 7:=by
     have:(16:Nat) ^ k<=16 ^ 7:=Nat.pow_le_pow_right (by decide) (by omega)
     exact_mod_cast this
    have h3:(16:Int) ^ 7=268435456:=by decide
    omega
   have hd:=Bur.drop_at s k hlt
   have hb256:s[k].toNat<256:=s[k].toNat_lt
   have hI:=fun W=>Tryz.strings_IndexByte ds (s[k].toNat:Int) W
   rw[show ((s[k].toNat:Int).toNat.toUInt8)=s[k] from by rw[Int.toNat_natCast];simp,hix] at hI
   cases e:f s[k] with
   | none=>
    rw[e,Option.getD_none] at hI
    have hRn:Hid (R=none):=by show _=_;rw[hM.out,hd,Bur.rx_no e]
    clear hM hd e m1
    go_wp2
    go_quiet ((go_at_call 300;exact Calls.quiet_of_same (hI _)))
    go_wp2
    go_ret2
    exact⟨by rw[hRn.out];rfl,below_drewN hb _⟩
   | some v=>
    obtain⟨v0,v1⟩:=hf _ _ e
    rw[e,Option.getD_some] at hI
    have hM2:Hid (R=Bur.rx f base (m*base+v) (s.data.toList.drop (k+1))):=by show _=_;rw[hM.out,hd,Bur.rx_on e]
    have hmb0:0<=m*base:=Int.mul_nonneg m0 (by omega)
    have hmb1:m*base<=m*16:=Int.mul_le_mul_of_nonneg_left bb1 m0
    have m2:Hid (m*base+v<16 ^ (k+1)):=by
     have h1:=m1.out
     show _<_
     rw[Int.pow_succ];omega
    have v0':¬ v<0:=by omega
    clear hM hd e m1
    go_wp2
    go_quiet ((go_at_call 300;exact Calls.quiet_of_same (hI _)))
    go_wp2
    exact⟨⟨k+1,m*base+v,by omega,by go_num,by go_num,rfl,by omega,m2,hM2,below_drewN hb _⟩,by simp[intOf];omega⟩
  ·have hlt':¬ (k:Int)<(s.size:Int):=by omega
   have hRn:Hid (R=some m):=by show _=_;rw[hM.out,List.drop_of_length_le (by simp;omega)];rfl
   clear hM m1
   go_wp2
   go_ret2
   exact⟨by rw[hRn.out];rfl,hb⟩
theorem plRead16 (s:ByteArray) (w:World) (hs:s.size<=8):Calls Tryz.prog 284 #[.string s,.int .i64 16] w fun e w'=>e=.returned (.tuple #[.int .i64 (Bur.rdN (Bur.rx Bur.hxv 16 0 s.data.toList)),.bool (Bur.rx Bur.hxv 16 0 s.data.toList).isSome])/\Below w.heap.size w w':=
 plRead 16 Bur.hxv ⟨#[48,49,50,51,52,53,54,55,56,57,97,98,99,100,101,102]⟩ (.inl rfl) (fun w=>by kernel_rfl) (Bur.ix_all Bur.ix16) (fun b d h=>by have:=Bur.hxv_bd h;omega) s w hs
theorem plRead10 (s:ByteArray) (w:World) (hs:s.size<=8):Calls Tryz.prog 284 #[.string s,.int .i64 10] w fun e w'=>e=.returned (.tuple #[.int .i64 (Bur.rdN (Bur.rx Bur.dv 10 0 s.data.toList)),.bool (Bur.rx Bur.dv 10 0 s.data.toList).isSome])/\Below w.heap.size w w':=
 plRead 10 Bur.dv ⟨#[48,49,50,51,52,53,54,55,56,57]⟩ (.inr rfl) (fun w=>by kernel_rfl) (Bur.ix_all Bur.ix10) (fun b d h=>by have:=Bur.dv_bd h;omega) s w hs
end Go.Proofs.YtcjdoeclblhaeaaGreatDoor.Pa
namespace Bur
theorem hasPk (c:UInt8):∀ l:List UInt8,Go.Lib.hasPrefix l [c,47]=decide (l.take 2=[c,47])
 | []=>by simp[Go.Lib.hasPrefix]
 | [a]=>by
  rw[Bool.eq_iff_iff]
  simp[Go.Lib.hasPrefix]
 | a :: b :: r=>by
  rw[Bool.eq_iff_iff]
  simp only [Go.Lib.hasPrefix,List.isPrefixOf,Bool.and_true,Bool.and_eq_true,beq_iff_eq,decide_eq_true_eq,List.take_succ_cons,List.take_zero,List.cons.injEq,and_true]
  exact⟨fun h=>⟨h.1.symm,h.2.symm⟩,fun h=>⟨h.1.symm,h.2.symm⟩⟩
end Bur
namespace Go.Proofs.YtcjdoeclblhaeaaGreatDoor.Pa
open Go.RowKit
def MaxL (w:World):Prop:=∃ m:Int,w.cell? ⟨0,0,none⟩=some (.int .i64 m)
theorem MaxL.step {w w':World} (h:MaxL w) (hb:Below w.heap.size w w'):MaxL w':=by
 obtain⟨m,h⟩:=h
 exact⟨m,(hb.cell (p:=⟨0,0,none⟩) (World.block_lt_of_cell? _ _ h)).trans h⟩
theorem cutAt (l:List UInt8) (c:UInt8) (w:World) (hl:l.length<4294967281) (hm:MaxL w) :
  Calls Tryz.prog 6 #[.string ⟨l.toArray⟩,.string ⟨#[c]⟩] w fun e w'=>e=.returned (.tuple #[.string ⟨(Bur.cutc c l).1.toArray⟩,.string ⟨(Bur.cutc c l).2.1.toArray⟩,.bool (Bur.cutc c l).2.2]) /\ ∃ n,w'=w.drewN n:=by
 obtain⟨m,hm⟩:=hm
 have:=Tryz.strings_Cut ⟨l.toArray⟩ ⟨#[c]⟩ m w (by simpa [ByteArray.size] using hl) hm
 have e:Lib.cut (ByteArray.mk l.toArray).data.toList (ByteArray.mk #[c]).data.toList=Bur.cutc c l:=Bur.cut_eq c l
 rw[e] at this
 exact this
theorem cutPre (l:List UInt8) (c:UInt8) (w:World):Calls Tryz.prog 70 #[.string ⟨l.toArray⟩,.string ⟨#[c,47]⟩] w fun e w'=>e=.returned (.tuple #[.string ⟨(if l.take 2=[c,47] then l.drop 2 else l).toArray⟩,.bool (decide (l.take 2=[c,47]))])/\w'=w:=by
 have:=Tryz.strings_CutPrefix ⟨l.toArray⟩ ⟨#[c,47]⟩ w
 have e1:Lib.hasPrefix (ByteArray.mk l.toArray).data.toList (ByteArray.mk #[c,47]).data.toList=decide (l.take 2=[c,47]):=Bur.hasPk c l
 rw[Lib.trimPrefix,e1] at this
 simpa using this
theorem plCut (c:UInt8) (l:List UInt8) (w:World) (hl:l.length<4294967281) (hm:MaxL w):Calls Tryz.prog 283 #[.string ⟨#[c,47]⟩,.string ⟨l.toArray⟩] w fun e w'=>(∃ x y:List UInt8,e=.returned (.tuple #[.string ⟨x.toArray⟩,.string ⟨y.toArray⟩,.bool (Bur.kcB c l)])/\(Bur.kcB c l=true->x=Bur.pkN l/\y=Bur.pkD l))/\Below w.heap.size w w':=by
 have hP:=fun W=>cutPre l c W
 by_cases h2:l.take 2=[c,47]
 ·rw[decide_eq_true h2,if_pos h2] at hP
  have hC:=fun W hm=>cutAt (l.drop 2) 47 W (by rw[List.length_drop];omega) hm
  have hlen:=(Bur.cutc_len 47 (l.drop 2)).1
  have hN:=fun W=>plName ⟨(Bur.cutc 47 (l.drop 2)).1.toArray⟩ W
  have hkc:Bur.kcB c l=((Bur.cutc 47 (l.drop 2)).2.2&&Bur.isN (Bur.cutc 47 (l.drop 2)).1):=by
   unfold Bur.kcB
   rw[decide_eq_true h2,Bool.true_and];rfl
  have hN1:Bur.pkN l=(Bur.cutc 47 (l.drop 2)).1:=rfl
  have hN2:Bur.pkD l=(Bur.cutc 47 (l.drop 2)).2.1:=rfl
  rw[hkc,hN1,hN2]
  clear hkc hN1 hN2 hlen
  generalize l.drop 2=r at *
  generalize Bur.cutc 47 r=q at *
  obtain⟨n,d,ok⟩:=q
  simp only at hC hN ⊢
  cases ok with
  | false=>
   rw[Bool.false_and]
   go_enter Tryz.func283,Tryz.ntmps283
   go_wp2_with (first
    | (go_at_call 70;refine (hP _).mono ?_;rintro e w1 ⟨rfl,rfl⟩)
    | (go_at_call 6;refine (hC _ hm).mono ?_;rintro e w2 ⟨rfl,k,rfl⟩))
   go_quiet (fail)
   go_wp2
   go_ret3
   exact⟨⟨n,d,rfl,fun h=>by cases h⟩,below_drewN (below_drewN (below_self _) _) _⟩
  | true=>
   rw[Bool.true_and]
   have hN':∀ W:World,Calls Tryz.prog 71 #[.string ⟨n.toArray⟩] W fun e w'=>e=.returned (ev (Bur.nmF n))/\Below W.heap.size W w':=hN
   cases hn:Bur.isN n with
   | true=>
    rw[show Bur.nmF n=0 from if_pos hn,ev_0] at hN'
    go_enter Tryz.func283,Tryz.ntmps283
    go_wp2_with (first
     | (go_at_call 70;refine (hP _).mono ?_;rintro e w1 ⟨rfl,rfl⟩)
     | (go_at_call 6;refine (hC _ hm).mono ?_;rintro e w2 ⟨rfl,k,rfl⟩))
    go_region_held3 (fun _=>True) (trivial) ((go_at_call 71;refine (hN' _).mono ?_;rintro e w3 ⟨rfl,hb3⟩))
    go_wp2
    go_ret3
    exact⟨⟨n,d,rfl,fun _=>⟨rfl,rfl⟩⟩,below_via (below_drewN (below_self _) _).drew hb3⟩
   | false=>
    rw[show Bur.nmF n=5 from if_neg (by rw[hn];decide),ev_ne (by decide)] at hN'
    go_enter Tryz.func283,Tryz.ntmps283
    go_wp2_with (first
     | (go_at_call 70;refine (hP _).mono ?_;rintro e w1 ⟨rfl,rfl⟩)
     | (go_at_call 6;refine (hC _ hm).mono ?_;rintro e w2 ⟨rfl,k,rfl⟩))
    go_region_held3 (fun _=>True) (trivial) ((go_at_call 71;refine (hN' _).mono ?_;rintro e w3 ⟨rfl,hb3⟩))
    go_wp2
    go_ret3
    exact⟨⟨n,d,rfl,fun h=>by cases h⟩,below_via (below_drewN (below_self _) _).drew hb3⟩
 ·rw[decide_eq_false h2,if_neg h2] at hP
  have hkc:Bur.kcB c l=false:=by unfold Bur.kcB;rw[decide_eq_false h2];rfl
  rw[hkc]
  go_enter Tryz.func283,Tryz.ntmps283
  go_wp2_with (go_at_call 70;refine (hP _).mono ?_;rintro e w1 ⟨rfl,rfl⟩)
  go_ret3
  exact⟨⟨[],[],rfl,fun h=>by cases h⟩,below_self _⟩
end Go.Proofs.YtcjdoeclblhaeaaGreatDoor.Pa
namespace Bur
theorem pkR_no {l:List UInt8} (h:kcB 112 l=false):pkR l=none:=by
 unfold pkR
 rw[if_neg (fun q=>by rw[h] at q;exact absurd q.1 (by decide))]
theorem pkR_len {l:List UInt8} (h:(pkD l).length≠10):pkR l=none:=by
 unfold pkR
 rw[if_neg (fun q=>h q.2)]
theorem pkR_ok {l:List UInt8} (h:kcB 112 l=true) (h10:(pkD l).length=10):pkR l=pxD (pkD l):=by
 unfold pkR
 rw[if_pos ⟨h,h10⟩]
end Bur
namespace Go.Proofs.YtcjdoeclblhaeaaGreatDoor.Pa
open Go.RowKit
theorem set_at {W:World} {b i:Nat} {x u:Value} (h:W.cell? ⟨b,i,none⟩=some x):(W.setCell ⟨b,i,none⟩ u).cell? ⟨b,i,none⟩=some u:=by go_simp
theorem set_off {W:World} {b i j:Nat} {x u:Value} (h:W.cell? ⟨b,j,none⟩=some x) (hij:i≠j):(W.setCell ⟨b,i,none⟩ u).cell? ⟨b,j,none⟩=some x:=by
 have hji:j≠i:=fun e=>hij e.symm
 go_simp
theorem fz_set {W:World} {b i j:Nat} {u:Value} (h:W.frozen? ⟨b,j,none⟩=false):(W.setCell ⟨b,i,none⟩ u).frozen? ⟨b,j,none⟩=false:=by go_simp
theorem two_one {W:World} {b:Nat} {u v x y:Value} (h0:W.cell? ⟨b,0,none⟩=some x) (h1:W.cell? ⟨b,1,none⟩=some y):((W.setCell ⟨b,0,none⟩ u).setCell ⟨b,1,none⟩ v).cell? ⟨b,0,none⟩=some u/\((W.setCell ⟨b,0,none⟩ u).setCell ⟨b,1,none⟩ v).cell? ⟨b,1,none⟩=some v:=
 ⟨set_off (set_at h0) (by decide),set_at (set_off h1 (by decide))⟩
theorem two_set {W:World} {b:Nat} {u v u' v' x y:Value} (h0:W.cell? ⟨b,0,none⟩=some x) (h1:W.cell? ⟨b,1,none⟩=some y):((((W.setCell ⟨b,0,none⟩ u).setCell ⟨b,1,none⟩ v).setCell ⟨b,0,none⟩ u').setCell ⟨b,1,none⟩ v').cell? ⟨b,0,none⟩=some u'/\((((W.setCell ⟨b,0,none⟩ u).setCell ⟨b,1,none⟩ v).setCell ⟨b,0,none⟩ u').setCell ⟨b,1,none⟩ v').cell? ⟨b,1,none⟩=some v':=
 two_one (two_one h0 h1).1 (two_one h0 h1).2
def rpV (n:List UInt8):Option (Int×Int)->Value
 | some p=>.tuple #[.string ⟨n.toArray⟩,pfx p.1 p.2,.nilIface]
 | none=>.tuple #[.string ⟨#[]⟩,pfx 0 0,errN 5]
theorem plReadPrefix (l:List UInt8) (w:World) (hl:l.length<4294967281) (hm:MaxL w):Calls Tryz.prog 254 #[.string ⟨l.toArray⟩] w fun e w'=>e=.returned (rpV (Bur.pkN l) (Bur.pkR l))/\Below w.heap.size w w':=by
 have hb0:=below_al (below_self w) (.cells #[.int .i64 0,.int .i64 0] 105)
 have hC:=plCut 112 l (w.alloc (.cells #[.int .i64 0,.int .i64 0] 105)) hl (hm.step hb0)
 have hnl:(Bur.pkN l).length<=l.length:=Nat.le_trans (Bur.cutc_len 47 (l.drop 2)).1 (by rw[List.length_drop];omega)
 obtain⟨R,hR⟩:∃ R,R=Bur.pkR l:=⟨_,rfl⟩
 rw[<- hR]
 have fin:∀ {W:World} (u v:Value),Below w.heap.size w W->Below w.heap.size w ((W.setCell ⟨w.heap.size,0,none⟩ u).setCell ⟨w.heap.size,1,none⟩ v):=fun u v h=>(h.setCell (Nat.le_refl _) _).setCell (Nat.le_refl _) _
 go_enter Tryz.func254,Tryz.ntmps254
 go_wp2_with fail
 refine hC.mono ?_
 clear hC
 rintro e w1 ⟨⟨x,y,rfl,hxy⟩,hb1⟩
 have hbw:=below_via hb0 hb1
 have glw:w.heap.size<w1.heap.size:=by have:=hb1.size;simp at this;omega
 have q0:w1.cell? ⟨w.heap.size,0,none⟩=some (.int .i64 0):=(hb1.cell (p:=⟨w.heap.size,0,none⟩) (by simp)).trans (by simp)
 have q1:w1.cell? ⟨w.heap.size,1,none⟩=some (.int .i64 0):=(hb1.cell (p:=⟨w.heap.size,1,none⟩) (by simp)).trans (by simp)
 have f0:w1.frozen? ⟨w.heap.size,0,none⟩=false:=(hb1.frozen (p:=⟨w.heap.size,0,none⟩) (by simp)).trans (by simp)
 have f1:w1.frozen? ⟨w.heap.size,1,none⟩=false:=(hb1.frozen (p:=⟨w.heap.size,1,none⟩) (by simp)).trans (by simp)
 clear hb0 hb1 hm
 cases hk:Bur.kcB 112 l with
 | false=>
  have hR0:Hid (R=none):=by show _=_;rw[hR];exact Bur.pkR_no hk
  clear hR hk hxy
  go_wp2
  exact bodyPost_ret (v:=rpV [] none) (by simp[results,Tryz.results254,go_sem,rpV,q0,q1]) rfl ⟨by rw[hR0.out];rfl,fin _ _ hbw⟩
 | true=>
  obtain⟨rfl,rfl⟩:=hxy hk
  by_cases h10:(Bur.pkD l).length=10
  ·have hRk:=hR.trans (Bur.pkR_ok hk h10)
   obtain⟨nn,hnn⟩:∃ nn,nn=Bur.pkN l:=⟨_,rfl⟩
   rw[<- hnn]
   have hNN:Hid (Bur.pkN l=nn):=hnn.symm
   clear hnn
   generalize Bur.pkD l=d at *
   clear hR hk hxy
   have he10:((d.length:Int)==10)=true:=by simp[h10]
   have hx8:((ByteArray.mk d.toArray).extract 0 8).data.toList=d.take 8:=by rw[Bur.ext_list];rfl
   have hx2:((ByteArray.mk d.toArray).extract 8 10).data.toList=d.drop 8:=by
    rw[Bur.ext_list]
    show (d.drop 8).take _=_
    rw[List.take_of_length_le (by rw[List.length_drop];omega)]
   have hd8:(8:Int)<=(d.length:Int):=by omega
   have r16:=fun W=>plRead16 ((ByteArray.mk d.toArray).extract 0 8) W (by have h1:=congrArg List.length hx8;simp at h1 ⊢;omega)
   have r10:=fun W=>plRead10 ((ByteArray.mk d.toArray).extract 8 10) W (by have h1:=congrArg List.length hx2;simp at h1 ⊢;omega)
   rw[hx8] at r16
   rw[hx2] at r10
   unfold Bur.pxD at hRk
   clear hx8 hx2
   cases eA:Bur.rx Bur.hxv 16 0 (d.take 8) with
   | none=>
    rw[eA] at r16 hRk
    have hR0:Hid (R=none):=by show _=_;rw[hRk]
    clear hRk eA
    have r16':∀ W:World,Calls Tryz.prog 284 #[.string ((ByteArray.mk d.toArray).extract 0 8),.int .i64 16] W fun e w'=>e=.returned (.tuple #[.int .i64 0,.bool false])/\Below W.heap.size W w':=r16
    have r10':∀ W:World,Calls Tryz.prog 284 #[.string ((ByteArray.mk d.toArray).extract 8 10),.int .i64 10] W fun e w'=>e=.returned (.tuple #[.int .i64 (Bur.rdN (Bur.rx Bur.dv 10 0 (d.drop 8))),.bool (Bur.rx Bur.dv 10 0 (d.drop 8)).isSome])/\Below W.heap.size W w':=r10
    generalize Bur.rdN (Bur.rx Bur.dv 10 0 (d.drop 8))=nv at r10'
    generalize (Bur.rx Bur.dv 10 0 (d.drop 8)).isSome=nb at r10'
    clear r16 r10
    go_wp2_with (first
     | (go_at_call_of 284 (Value.int IntKind.i64 16);refine (r16' _).mono ?_;rintro e w2 ⟨rfl,hb2⟩)
     | (go_at_call_of 284 (Value.int IntKind.i64 10);refine (r10' _).mono ?_;rintro e w3 ⟨rfl,hb3⟩;have hb13:=below_via hb2 hb3;have hbz:=below_via hbw hb13;have q03:=(hb13.cell (p:=⟨w.heap.size,0,none⟩) glw).trans q0;have q13:=(hb13.cell (p:=⟨w.heap.size,1,none⟩) glw).trans q1;have f03:=(hb13.frozen (p:=⟨w.heap.size,0,none⟩) glw).trans f0;have f13:=(hb13.frozen (p:=⟨w.heap.size,1,none⟩) glw).trans f1;have hs13:=hb13.size))
    exact bodyPost_ret (v:=rpV [] none) (by simp[results,Tryz.results254,go_sem,rpV,(two_set q03 q13).1,(two_set q03 q13).2]) rfl ⟨by rw[hR0.out];rfl,fin _ _ (fin _ _ hbz)⟩
   | some a=>
    rw[eA] at r16 hRk
    have r16':∀ W:World,Calls Tryz.prog 284 #[.string ((ByteArray.mk d.toArray).extract 0 8),.int .i64 16] W fun e w'=>e=.returned (.tuple #[.int .i64 a,.bool true])/\Below W.heap.size W w':=r16
    clear r16 eA
    cases eN:Bur.rx Bur.dv 10 0 (d.drop 8) with
    | none=>
     rw[eN] at r10 hRk
     have r10':∀ W:World,Calls Tryz.prog 284 #[.string ((ByteArray.mk d.toArray).extract 8 10),.int .i64 10] W fun e w'=>e=.returned (.tuple #[.int .i64 0,.bool false])/\Below W.heap.size W w':=r10
     have hR0:Hid (R=none):=hRk
     clear r10 eN hRk
     go_wp2_with (first
      | (go_at_call_of 284 (Value.int IntKind.i64 16);refine (r16' _).mono ?_;rintro e w2 ⟨rfl,hb2⟩)
      | (go_at_call_of 284 (Value.int IntKind.i64 10);refine (r10' _).mono ?_;rintro e w3 ⟨rfl,hb3⟩;have hb13:=below_via hb2 hb3;have hbz:=below_via hbw hb13;have q03:=(hb13.cell (p:=⟨w.heap.size,0,none⟩) glw).trans q0;have q13:=(hb13.cell (p:=⟨w.heap.size,1,none⟩) glw).trans q1;have f03:=(hb13.frozen (p:=⟨w.heap.size,0,none⟩) glw).trans f0;have f13:=(hb13.frozen (p:=⟨w.heap.size,1,none⟩) glw).trans f1;have hs13:=hb13.size))
     exact bodyPost_ret (v:=rpV [] none) (by simp[results,Tryz.results254,go_sem,rpV,(two_set q03 q13).1,(two_set q03 q13).2]) rfl ⟨by rw[hR0.out];rfl,fin _ _ (fin _ _ hbz)⟩
    | some n=>
     rw[eN] at r10 hRk
     have r10':∀ W:World,Calls Tryz.prog 284 #[.string ((ByteArray.mk d.toArray).extract 8 10),.int .i64 10] W fun e w'=>e=.returned (.tuple #[.int .i64 n,.bool true])/\Below W.heap.size W w':=r10
     simp only at hRk
     clear r10 eN
     by_cases hf:Bur.fault a n=0
     ·rw[if_pos hf] at hRk
      have hR0:Hid (R=some (a,n)):=hRk
      clear hRk
      have hK:=fun W=>check_ok a n W hf
      clear hf
      go_wp2_with (first
       | (go_at_call_of 284 (Value.int IntKind.i64 16);refine (r16' _).mono ?_;rintro e w2 ⟨rfl,hb2⟩)
       | (go_at_call_of 284 (Value.int IntKind.i64 10);refine (r10' _).mono ?_;rintro e w3 ⟨rfl,hb3⟩;have hb13:=below_via hb2 hb3;have hbz:=below_via hbw hb13;have q03:=(hb13.cell (p:=⟨w.heap.size,0,none⟩) glw).trans q0;have q13:=(hb13.cell (p:=⟨w.heap.size,1,none⟩) glw).trans q1;have f03:=(hb13.frozen (p:=⟨w.heap.size,0,none⟩) glw).trans f0;have f13:=(hb13.frozen (p:=⟨w.heap.size,1,none⟩) glw).trans f1;have hs13:=hb13.size)
       | (go_at_call 84;refine (hK _).mono ?_;rintro e w5 ⟨rfl,hc5,hf5,hs5,hb5⟩;have hszA:w.heap.size<((w3.setCell ⟨w.heap.size,0,none⟩ (.int .i64 a)).setCell ⟨w.heap.size,1,none⟩ (.int .i64 n)).heap.size:=World.block_lt_of_cell? _ _ (two_one q03 q13).1;have q05:w5.cell? ⟨w.heap.size,0,none⟩=some (.int .i64 a):=(hc5 _).trans ((World.cell?_alloc_lt _ _ ⟨w.heap.size,0,none⟩ hszA).trans (two_one q03 q13).1);have q15:w5.cell? ⟨w.heap.size,1,none⟩=some (.int .i64 n):=(hc5 _).trans ((World.cell?_alloc_lt _ _ ⟨w.heap.size,1,none⟩ hszA).trans (two_one q03 q13).2);have f05:w5.frozen? ⟨w.heap.size,0,none⟩=false:=(hf5 _).trans (((below_al (below_self _) _).frozen (p:=⟨w.heap.size,0,none⟩) hszA).trans (fz_set (fz_set f03)));have f15:w5.frozen? ⟨w.heap.size,1,none⟩=false:=(hf5 _).trans (((below_al (below_self _) _).frozen (p:=⟨w.heap.size,1,none⟩) hszA).trans (fz_set (fz_set f13)));have hbv:=below_via (below_al (fin (.int .i64 a) (.int .i64 n) hbz) (pcs a n)) hb5;clear hc5 hf5 hb5 hs5))
      go_region_held3 (fun wy=>wy.cell? ⟨w.heap.size,0,none⟩=some (.int .i64 a)/\wy.cell? ⟨w.heap.size,1,none⟩=some (.int .i64 n)) (go_simp) (fail)
      go_wp2
      exact bodyPost_ret (v:=rpV nn (some (a,n))) (by simp[results,Tryz.results254,go_sem,rpV,(two_one q05 q15).1,(two_one q05 q15).2]) rfl ⟨by rw[hR0.out,hNN.out],below_drewN (fin _ _ hbv) _⟩
     ·rw[if_neg hf] at hRk
      have hR0:Hid (R=none):=hRk
      clear hRk
      have hK:=fun W=>check_no a n W hf
      clear hf
      go_wp2_with (first
       | (go_at_call_of 284 (Value.int IntKind.i64 16);refine (r16' _).mono ?_;rintro e w2 ⟨rfl,hb2⟩)
       | (go_at_call_of 284 (Value.int IntKind.i64 10);refine (r10' _).mono ?_;rintro e w3 ⟨rfl,hb3⟩;have hb13:=below_via hb2 hb3;have hbz:=below_via hbw hb13;have q03:=(hb13.cell (p:=⟨w.heap.size,0,none⟩) glw).trans q0;have q13:=(hb13.cell (p:=⟨w.heap.size,1,none⟩) glw).trans q1;have f03:=(hb13.frozen (p:=⟨w.heap.size,0,none⟩) glw).trans f0;have f13:=(hb13.frozen (p:=⟨w.heap.size,1,none⟩) glw).trans f1;have hs13:=hb13.size)
       | (go_at_call 84;refine (hK _).mono ?_;rintro e w5 ⟨rfl,hc5,hf5,hs5,hb5⟩;have hszA:w.heap.size<((w3.setCell ⟨w.heap.size,0,none⟩ (.int .i64 a)).setCell ⟨w.heap.size,1,none⟩ (.int .i64 n)).heap.size:=World.block_lt_of_cell? _ _ (two_one q03 q13).1;have q05:w5.cell? ⟨w.heap.size,0,none⟩=some (.int .i64 a):=(hc5 _).trans ((World.cell?_alloc_lt _ _ ⟨w.heap.size,0,none⟩ hszA).trans (two_one q03 q13).1);have q15:w5.cell? ⟨w.heap.size,1,none⟩=some (.int .i64 n):=(hc5 _).trans ((World.cell?_alloc_lt _ _ ⟨w.heap.size,1,none⟩ hszA).trans (two_one q03 q13).2);have f05:w5.frozen? ⟨w.heap.size,0,none⟩=false:=(hf5 _).trans (((below_al (below_self _) _).frozen (p:=⟨w.heap.size,0,none⟩) hszA).trans (fz_set (fz_set f03)));have f15:w5.frozen? ⟨w.heap.size,1,none⟩=false:=(hf5 _).trans (((below_al (below_self _) _).frozen (p:=⟨w.heap.size,1,none⟩) hszA).trans (fz_set (fz_set f13)));have hbv:=below_via (below_al (fin (.int .i64 a) (.int .i64 n) hbz) (pcs a n)) hb5;clear hc5 hf5 hb5 hs5))
      exact bodyPost_ret (v:=rpV [] none) (by simp[results,Tryz.results254,go_sem,rpV,(two_one q05 q15).1,(two_one q05 q15).2]) rfl ⟨by rw[hR0.out];rfl,fin _ _ hbv⟩
  ·have hR0:Hid (R=none):=by show _=_;rw[hR];exact Bur.pkR_len h10
   have he10:(((Bur.pkD l).length:Int)==10)=false:=beq_eq_false_iff_ne.2 (by omega)
   clear hR hk hxy h10
   go_wp2
   exact bodyPost_ret (v:=rpV [] none) (by simp[results,Tryz.results254,go_sem,rpV,q0,q1]) rfl ⟨by rw[hR0.out];rfl,fin _ _ hbw⟩
end Go.Proofs.YtcjdoeclblhaeaaGreatDoor.Pa
namespace Go.Proofs.YtcjdoeclblhaeaaGreatDoor.Pa
open Go.RowKit
def raV (n:List UInt8):Option Int->Value
 | some a=>.tuple #[.string ⟨n.toArray⟩,.int .i64 a,.nilIface]
 | none=>.tuple #[.string ⟨#[]⟩,.int .i64 0,errN 5]
theorem plReadAddr (l:List UInt8) (w:World) (hl:l.length<4294967281) (hm:MaxL w):Calls Tryz.prog 255 #[.string ⟨l.toArray⟩] w fun e w'=>e=.returned (raV (Bur.pkN l) (Bur.raK l))/\Below w.heap.size w w':=by
 have K:=plCut 97 l w hl hm
 cases hk:Bur.kcB 97 l
 ·have e0:Bur.raK l=none:=if_neg (fun q=>by rw[hk] at q;exact absurd q.1 (by decide))
  rw[hk] at K
  rw[e0]
  clear e0 hk
  go_enter Tryz.func255,Tryz.ntmps255
  go_wp2_with (go_at_call 283;refine K.mono ?_;clear K;rintro e w1 ⟨⟨x,y,rfl,_⟩,hb1⟩)
  go_ret3
  exact⟨rfl,hb1⟩
 ·by_cases h8:(Bur.pkD l).length=8
  ·have e0:Bur.raK l=Bur.rx Bur.hxv 16 0 (Bur.pkD l):=if_pos ⟨hk,h8⟩
   have K2:∀ w1:World,Calls Tryz.prog 284 #[.string ⟨(Bur.pkD l).toArray⟩,.int .i64 16] w1 _:=fun w1=>plRead16 ⟨(Bur.pkD l).toArray⟩ w1 (by show (Bur.pkD l).toArray.size<=8;simp;omega)
   rw[hk] at K
   have h8':(⟨(Bur.pkD l).toArray⟩:ByteArray).size=8:=by show (Bur.pkD l).toArray.size=8;simpa using h8
   simp only at K2
   rw[<- e0] at K2
   clear e0 hk h8
   generalize Bur.raK l=R at K2 ⊢
   generalize Bur.pkD l=D at K K2 h8'
   generalize Bur.pkN l=n at K ⊢
   cases R with
   | none=>
    have K3:∀ w1:World,Calls Tryz.prog 284 #[.string ⟨D.toArray⟩,.int .i64 16] w1 fun e w'=>e=.returned (.tuple #[.int .i64 0,.bool false])/\Below w1.heap.size w1 w':=K2
    clear K2
    go_enter Tryz.func255,Tryz.ntmps255
    go_wp2_with (first
     | (go_at_call 283;refine K.mono ?_;clear K;rintro e w1 ⟨⟨x,y,rfl,hxy⟩,hb1⟩;obtain⟨rfl,rfl⟩:=hxy rfl;clear hxy)
     | (go_at_call 284;refine (K3 _).mono ?_;rintro e w2 ⟨rfl,hb2⟩))
    go_ret3
    exact⟨rfl,below_via hb1 hb2⟩
   | some a=>
    have K3:∀ w1:World,Calls Tryz.prog 284 #[.string ⟨D.toArray⟩,.int .i64 16] w1 fun e w'=>e=.returned (.tuple #[.int .i64 a,.bool true])/\Below w1.heap.size w1 w':=K2
    clear K2
    go_enter Tryz.func255,Tryz.ntmps255
    go_wp2_with (first
     | (go_at_call 283;refine K.mono ?_;clear K;rintro e w1 ⟨⟨x,y,rfl,hxy⟩,hb1⟩;obtain⟨rfl,rfl⟩:=hxy rfl;clear hxy)
     | (go_at_call 284;refine (K3 _).mono ?_;rintro e w2 ⟨rfl,hb2⟩))
    go_ret3
    exact⟨rfl,below_via hb1 hb2⟩
  ·have e0:Bur.raK l=none:=if_neg (fun q=>h8 q.2)
   rw[hk] at K
   rw[e0]
   have h8n:(((Bur.pkD l).length:Int) != 8)=true:=by simp;omega
   clear e0 hk h8
   generalize Bur.pkD l=D at K h8n
   go_enter Tryz.func255,Tryz.ntmps255
   go_wp2_with (go_at_call 283;refine K.mono ?_;clear K;rintro e w1 ⟨⟨x,y,rfl,hxy⟩,hb1⟩;obtain⟨_,rfl⟩:=hxy rfl;clear hxy)
   go_ret3
   exact⟨rfl,hb1⟩
end Go.Proofs.YtcjdoeclblhaeaaGreatDoor.Pa
