/- -/
import Derived.Test.YthaggkmammfpbaaGreatDoorFAdCutMath
import Derived.Test.YthaggkmammfpbaaGreatDoorFPlR
import Derived.Test.YthaggkmammfpbaaGreatDoorRows
import Derived.ProofKit
import Derived.OpenShut
import Derived.Deep.SlicePairs
import Derived.ChangeMaps5
import Derived.Carry
import Derived.Test.YthaggkmammfpbaaGreatDoorFHlG
import Derived.Test.YthaggkmammfpbaaGreatDoorFAuG
import Derived.Deep.CutBlock
import Derived.BigQuiet
set_option maxHeartbeats 8000000
set_option maxRecDepth 100000
namespace Go.Proofs.YthaggkmammfpbaaGreatDoor.Pa
open Go.ChangeShapes Go.WideShapes Go.ChangeAt Go.RowKit Go.Deep Vs
structure Hs where
 what : Int
 who : ByteArray
 n : Int
 c : Cl
def hsL (x : Hs) : List Value := [.int .i64 x.what,.string x.who,.int .i64 x.n,.int .i64 x.c.what,.string x.c.nm,.int .i64 x.c.p.1,.int .i64 x.c.p.2,.int .i64 x.c.len,.int .i64 x.c.ad,.string x.c.ow]
def I6 (i : Int) : Prop := -9223372036854775808 <= i /\ i <= 9223372036854775807
structure ClOk (c : Cl) : Prop where
 nm : c.nm.size <= maxLen
 ow : c.ow.size <= maxLen
 wh : I6 c.what
 p1 : I6 c.p.1
 p2 : I6 c.p.2
 ln : I6 c.len
 ad : I6 c.ad
structure HsOk (x : Hs) : Prop where
 who : x.who.size <= maxLen
 n : I6 x.n
 c : ClOk x.c
def HsC (w : World) (b off : Nat) (l : List Hs) : Prop := ∀ i x,l[i]? = some x -> ∀ j v,(hsL x)[j]? = some v -> w.cell? ⟨b,off + (i * 10 + j),none⟩ = some v
def HsAt (w : World) (p : Option Addr) (l : List Hs) : Prop := 0 < l.length -> ∃ b off,p = some ⟨b,off,none⟩ /\ b < w.heap.size /\ HsC w b off l
theorem HsAt.step {w w' : World} {p : Option Addr} {l : List Hs} (h : HsAt w p l) (hb : Below w.heap.size w w') : HsAt w' p l := fun hl => by
 obtain ⟨b,off,rfl,h1,h2⟩ := h hl
 exact ⟨b,off,rfl,Nat.lt_of_lt_of_le h1 hb.size,fun i x hx j v hv => (hb.cell (p := ⟨b,off + (i * 10 + j),none⟩) h1).trans (h2 i x hx j v hv)⟩
theorem hs_cells : Tryz.prog.cellsOf 35 = 10 := by kernel_rfl
theorem call_cells : Tryz.prog.cellsOf 33 = 7 := by kernel_rfl
theorem pfx_cells : Tryz.prog.cellsOf 31 = 2 := by kernel_rfl
theorem hint_cells : Tryz.prog.cellsOf 3 = 1 := by kernel_rfl
theorem hstr_cells : Tryz.prog.cellsOf 9 = 1 := by kernel_rfl
theorem hlaid_out : laidOutB Tryz.prog = true := by kernel_rfl
theorem i6_of {i : Int} (h : (Lit.int .i64 i).wf = true) : I6 i := by
 simpa [Lit.wf,I6,show IntKind.i64.min = -9223372036854775808 from rfl,show IntKind.i64.max = 9223372036854775807 from rfl] using h
theorem open_pfx {H : Type} {enc : TypeId × Value -> H} {W : World} {k : Nat} {v0 v1 : Value} {y : DataW H × List MemPlace} (h : DataW.trod enc Tryz.prog W 0 (fun _ => true) true k 31 [v0,v1] = some y) : ∃ a b : Int,v0 = .int .i64 a /\ v1 = .int .i64 b /\ I6 a /\ I6 b := by
 obtain ⟨xs,k,hk,hxy,_,hxl,hfl⟩ := DataW.trod_struct Tryz.underlying31 h
 match xs,hxl with
 | [y0,y1],_ =>
  have g0 := hfl 0 _ rfl
  have g1 := hfl 1 _ rfl
  simp [hint_cells] at g0 g1
  obtain ⟨k0,e0,_,z0⟩ := DataW.trod_int Tryz.underlying3 g0
  obtain ⟨k1,e1,_,z1⟩ := DataW.trod_int Tryz.underlying3 g1
  simp only [List.cons.injEq,and_true] at e0 e1
  exact ⟨k0,k1,e0,e1,i6_of z0,i6_of z1⟩
theorem open_callC {H : Type} {enc : TypeId × Value -> H} {W : World} {k : Nat} {v0 v1 v2 v3 v4 v5 v6 : Value} {y : DataW H × List MemPlace} (h : DataW.trod enc Tryz.prog W 0 (fun _ => true) true k 33 [v0,v1,v2,v3,v4,v5,v6] = some y) :
  ∃ c : Cl,ClOk c /\ v0 = .int .i64 c.what /\ v1 = .string c.nm /\ v2 = .int .i64 c.p.1 /\ v3 = .int .i64 c.p.2 /\ v4 = .int .i64 c.len /\ v5 = .int .i64 c.ad /\ v6 = .string c.ow := by
 obtain ⟨xs,k,hk,hxy,_,hxl,hfl⟩ := DataW.trod_struct Tryz.underlying33 h
 match xs,hxl with
 | [y0,y1,y2,y3,y4,y5],_ =>
  have g0 := hfl 0 _ rfl
  have g1 := hfl 1 _ rfl
  have g2 := hfl 2 _ rfl
  have g3 := hfl 3 _ rfl
  have g4 := hfl 4 _ rfl
  have g5 := hfl 5 _ rfl
  simp [hint_cells,hstr_cells,pfx_cells] at g0 g1 g2 g3 g4 g5
  obtain ⟨k0,e0,_,z0⟩ := DataW.trod_int Tryz.underlying3 g0
  obtain ⟨k1,e1,_,z1⟩ := DataW.trod_string Tryz.underlying9 g1
  obtain ⟨a,b,e2,e3,z2,z3⟩ := open_pfx g2
  obtain ⟨k4,e4,_,z4⟩ := DataW.trod_int Tryz.underlying3 g3
  obtain ⟨k5,e5,_,z5⟩ := DataW.trod_int Tryz.underlying3 g4
  obtain ⟨k6,e6,_,z6⟩ := DataW.trod_string Tryz.underlying9 g5
  simp only [List.cons.injEq,and_true] at e0 e1 e4 e5 e6
  exact ⟨⟨k0,k1,(a,b),k4,k5,k6⟩,⟨z1,z6,i6_of z0,z2,z3,i6_of z4,i6_of z5⟩,e0,e1,e2,e3,e4,e5,e6⟩
theorem open_hs {H : Type} {enc : TypeId × Value -> H} {W : World} {base : Nat} {v : Value} {d : DataW H} {ps : List MemPlace} (hval : Value.okWide Tryz.prog W .any base 22 v) (h : DataW.Trod enc Tryz.prog W 0 (fun _ => true) true 22 v d ps) :
  ∃ (p : Option Addr) (cap : Nat) (l : List Hs),v = .slice p l.length cap /\ l.length <= maxLen /\ HsAt W p l /\ ∀ x ∈ l,HsOk x := by
 obtain ⟨a0,len,cap,rfl⟩ := okWide_slice Tryz.underlying22 hval
 obtain ⟨fuel,hf⟩ := h
 rcases open_slice Tryz.underlying22 hf with ⟨h0,_⟩ | ⟨a,len',cap',m,n,D,Pl,hcs,_,hl,hm,hmm,hxd,hx⟩
 ·simp [Value.cells] at h0
  obtain ⟨rfl,rfl,rfl⟩ := h0
  exact ⟨none,0,[],rfl,by simp,fun h => by simp at h,fun x h => by simp at h⟩
 ·simp [Value.cells] at hcs
  obtain ⟨rfl,rfl,rfl⟩ := hcs
  simp only [if_true] at hmm
  subst hmm
  have each : ∀ i,i < len -> ∃ x : Hs,HsOk x /\ ∀ j v,(hsL x)[j]? = some v -> W.cell? (a.add (i * 10 + j)) = some v := by
   intro i hi
   obtain ⟨cs',h1,h2⟩ := hx i (by omega)
   rw [hs_cells] at h1
   obtain ⟨_,hlen,hcell⟩ := World.cells?_some h1
   obtain ⟨xs,k,hk,hxy,_,hxl,hfl⟩ := DataW.trod_struct Tryz.underlying35 h2
   match xs,hxl,cs',hlen with
   | [y0,y1,y2,y3],_,[v0,v1,v2,v3,v4,v5,v6,v7,v8,v9],_ =>
    have g0 := hfl 0 _ rfl
    have g1 := hfl 1 _ rfl
    have g2 := hfl 2 _ rfl
    have g3 := hfl 3 _ rfl
    simp [hint_cells,hstr_cells,call_cells] at g0 g1 g2 g3
    obtain ⟨k0,e0,_,_⟩ := DataW.trod_int Tryz.underlying3 g0
    obtain ⟨k1,e1,_,z1⟩ := DataW.trod_string Tryz.underlying9 g1
    obtain ⟨k2,e2,_,z2⟩ := DataW.trod_int Tryz.underlying3 g2
    obtain ⟨c,hc,q0,q1,q2,q3,q4,q5,q6⟩ := open_callC g3
    simp only [List.cons.injEq,and_true] at e0 e1 e2
    subst e0 e1 e2 q0 q1 q2 q3 q4 q5 q6
    refine ⟨⟨k0,k1,k2,c⟩,⟨z1,i6_of z2,hc⟩,fun j v hv => ?_⟩
    have hj : j < 10 := (List.getElem?_eq_some_iff.1 hv).1
    have r := hcell j (by simpa using hj)
    rw [add_add] at r
    rw [r]
    exact hv
  have : Inhabited Hs := ⟨⟨0,ByteArray.empty,0,⟨0,ByteArray.empty,(0,0),0,0,ByteArray.empty⟩⟩⟩
  obtain ⟨f,hfx⟩ := choose_lt each
  refine ⟨some a,m,(List.range len).map f,by simp,by simp; omega,fun hp => ?_,fun x hxm => ?_⟩
  case refine_2 =>
   obtain ⟨i,hi,rfl⟩ := List.mem_map.1 hxm
   exact (hfx i (List.mem_range.1 hi)).1
  simp only [List.length_map,List.length_range] at hp
  obtain ⟨b,off,spot⟩ := a
  have c0 := (hfx 0 hp).2 0 _ rfl
  have hspot : spot = none := by simpa [Addr.add] using World.cell?_spot c0
  subst hspot
  refine ⟨b,off,rfl,?_,fun i x hix j v hv => ?_⟩
  ·have := World.block_lt_of_cell? _ _ c0
   simpa [Addr.add] using this
  ·have hi : i < len := by
    have := (List.getElem?_eq_some_iff.1 hix).1
    simpa using this
   have e : x = f i := by
    rw [List.getElem?_map,List.getElem?_range hi] at hix
    exact (Option.some.inj hix).symm
   subst e
   have := (hfx i hi).2 j v hv
   rw [add_plain] at this
   exact this
end Go.Proofs.YthaggkmammfpbaaGreatDoor.Pa
namespace Go.Proofs.YthaggkmammfpbaaGreatDoor.Pa
open Go.RowKit Go.Maps Vs
open Au (auCheck)
theorem all_few {k : Nat} {d : Dk} (h : Dp k d) (hk : k <= 1000) : (allP d).length <= 1000 := by
 have h1 := allP_len d
 have h2 := h.ok.len
 have h3 := h.wl
 unfold wt at h3
 omega
theorem all_small {d : Dk} (h : OkD d) : ∀ x ∈ allP d,x.1.size < 4294967281 := fun x hx => by
 rw [allP_at] at hx
 obtain ⟨y,hy,_,_⟩ := vget_some.1 (((allAt_is h.tb d.last).2 x).1 hx)
 obtain ⟨g1,g2,_⟩ := see_some hy
 have := (h.tb.each y g1).1
 have h24 := this.2.1
 rw [g2] at h24
 omega
section
variable {T : Td} {w0 w w' : World} {K : Nat -> Prop} {H : Nat} {d : Dk} {S : Ses}
theorem H1.flush (V : DFace T) {k : Nat} (h : H1 T w0 K w H d S) (dp : Dp k d) (hk : k <= 800) :
  Calls Tryz.prog 32 #[.pointer (some ⟨H,0,none⟩)] w fun e w' => e = .returned (ev (flF d)) /\ H1 T w0 K w' H (flD d) S /\ But (fun j => ¬ K j) w w' := by
 obtain ⟨G,h1,h2⟩ := h.ex
 refine (hallFlush V h1 dp.ok (dp.sm (by omega))).mono ?_
 rintro e w' ⟨rfl,hp⟩
 exact ⟨rfl,h.op h2 hp⟩
theorem H1.fail (V : DFace T) {k : Nat} (n : Int) (hn : I6 n) (h : H1 T w0 K w H d S) (dp : Dp k d) (hk : k <= 800) :
  Calls Tryz.prog 33 #[.pointer (some ⟨H,0,none⟩),.int .i64 n] w fun e w' => e = .returned (.tuple #[]) /\ H1 T w0 K w' H (fdD d n) S /\ But (fun j => ¬ K j) w w' := by
 obtain ⟨G,h1,h2⟩ := h.ex
 refine (hallFail V h1 dp.ok (dp.sm (by omega)) n hn.1 hn.2).mono ?_
 rintro e w' ⟨rfl,hp⟩
 exact ⟨rfl,h.op h2 hp⟩
theorem H1.crash (V : DFace T) {k : Nat} (n : Int) (hn : I6 n) (h : H1 T w0 K w H d S) (dp : Dp k d) (hk : k <= 800) :
  Calls Tryz.prog 34 #[.pointer (some ⟨H,0,none⟩),.int .i64 n] w fun e w' => e = .returned (.tuple #[]) /\ H1 T w0 K w' H (cdD d n) [] /\ But (fun j => ¬ K j) w w' := by
 obtain ⟨G,h1,h2⟩ := h.ex
 refine (hallCrash V h1 dp.ok (dp.sm (by omega)) n hn.1 hn.2).mono ?_
 rintro e w' ⟨rfl,hp⟩
 exact ⟨rfl,h.op h2 hp⟩
theorem hoS_len (d : Dk) (S : Ses) (k : ByteArray) : (hoS d S k).length <= S.length + 1 := by
 unfold hoS
 split
 ·simp
 ·omega
theorem hz_open {k : Nat} (h : Hz k d) (who : ByteArray) : Hz (k + 1) (hoD d S who) := by
 unfold hoD
 split
 ·exact h.bg
 ·exact h.more (by omega)
theorem hz_close {k : Nat} (h : Hz k d) (who : ByteArray) : Hz (k + 1) (hcD d S who) := by
 unfold hcD
 split
 ·exact h.more (by omega)
 ·exact h.cm _
theorem hz_quit {k : Nat} (h : Hz k d) (who : ByteArray) : Hz (k + 1) (hqD d S who) := by
 unfold hqD
 split
 ·exact h.more (by omega)
 ·exact h.del _
theorem hz_ask {k : Nat} (h : Hz k d) (who : ByteArray) (c : Cl) : Hz (k + 1) (haD d S who c) := by
 unfold haD
 split
 ·exact h.more (by omega)
 ·exact h.run c _
def cno : Cl := ⟨1,⟨#[120]⟩,(0,0),0,0,⟨#[111]⟩⟩
theorem cno_ok : onF (dk0 100000) cno = 0 := by decide +kernel
theorem cno_net : ntL (allP (onD (dk0 100000) cno)) = [⟨#[120]⟩] := by decide +kernel
theorem law_order (V : DFace T) (l : List Hs) (pl : Option Addr) (cl : Nat) (w : World) (hll : l.length <= 9223372036854775807) (hs : HsAt w pl l) (hok : ∀ x ∈ l,HsOk x) (en : En w) :
  Calls Tryz.prog 8 #[.slice pl l.length cl] w fun e w' => e = .returned (.bool true) /\ Below w.heap.size w w' := by
 have P0 := H1.new V 100000 w w (fun j => j < w.heap.size) en (by decide) (by decide) (fun j hj => hj) (fun j hj => hj) (below_self w)
 have hz1 := (Hz.new 100000 (by decide) (by decide)).once cno
 have P1 := fun {wz : World} {H : Nat} (h : H1 T w (fun j => j < w.heap.size) wz H (dk0 100000) []) => h.once V cno (Dp.new (room := 100000) (by decide) (by decide)) (by decide)
 rw [cno_ok,ev_0] at P1
 have P2 := fun {wz : World} {G : Nat -> Prop} {H : Nat} (h : Hl T wz G H (onD (dk0 100000) cno) []) => hallNets V h hz1.dp.ok (hz1.dp.sm (by omega)) (all_few hz1.dp (by omega))
 rw [cno_net] at P2
 generalize onA (dk0 100000) cno = a1 at P1
 generalize onN (dk0 100000) cno = n1 at P1
 generalize onD (dk0 100000) cno = d1 at P1 P2 hz1
 go_enter Tryz.func8,Tryz.ntmps8
 go_wp2_with fail
 refine P0.mono ?_
 rintro e w1 ⟨H,rfl,h1,b1⟩
 have Q1 := P1 h1
 clear P0 P1 b1
 go_wp2_with fail
 refine Q1.mono ?_
 rintro e w2 ⟨u1,rfl,row1,h2,bt2⟩
 obtain ⟨pu,cu,rfl⟩ := own_form row1
 have bA := below_al (below_self w2) (.cells #[.int .i64 a1.p.1,.int .i64 a1.p.2,.int .i64 a1.ad,.string a1.ow,.slice pu a1.l.length cu] 48)
 have h3 := h2.same V bA
 obtain ⟨G3,g3,_⟩ := h3.ex
 have Q2 := P2 g3
 clear Q1 P2 h2 bt2 h1 row1 bA g3
 go_wp2_with fail
 refine Q2.mono ?_
 rintro e w3 ⟨v3,rfl,row3,b3⟩
 have h4 := h3.same V b3
 obtain ⟨g,cg,rfl⟩ := own_block row3 (by decide)
 have n0 : w3.cell? ⟨g,0,none⟩ = some (.string ⟨#[120]⟩) := row3.cells (g := g) rfl 0 _ rfl
 clear Q2 h3 row3 b3
 go_upto_block 0 with fail
 go_cut [9] from 41 to 114 (fun _ wy => Below w.heap.size w wy)
 case rest =>
  refine ‹∀ (a : Act) (w : World),Code.wp _ _ _ a w -> _› _ _ ?_
  go_wp2_with fail
  go_ret
  exact ⟨rfl,hcut⟩
 case first =>
 go_wp2_with fail
 go_loopw [9] (fun i wr => ∃ (k m : Nat) (d : Dk) (S : Ses),k <= l.length /\ k <= 60 /\ i = .int .i64 k /\ m <= 4 * k + 3 /\ Hz m d /\ S.length <= k /\ H1 T w (fun j => j < w.heap.size) wr H d S) (fun i _ => l.length - (intOf i).toNat)
 case atStart => exact ⟨0,3,d1,[],by omega,by omega,rfl,by omega,hz1,by simp,h4⟩
 case round =>
  obtain ⟨k,m,d,S,hk,hk60,rfl,hm,hz0,hSl,h⟩ := hrel
  clear h4 hz1 n0
  by_cases hlt : k < l.length /\ k < 60
  ·obtain ⟨hlt,hlt60⟩ := hlt
   have hlt' : (k : Int) < (l.length : Int) := by omega
   have hlt60' : (k : Int) < 60 := by omega
   obtain ⟨b,off,rfl,hbl,hc⟩ := (hs.step h.bl) (by omega)
   obtain ⟨x,hx⟩ : ∃ x,l[k]? = some x := ⟨l[k],List.getElem?_eq_getElem hlt⟩
   have hxo : HsOk x := hok x (List.mem_of_getElem? hx)
   have r := hc k x hx
   have r0 := r 0 _ rfl
   rw [show off + (k * 10 + 0) = off + k * 10 by omega] at r0
   have r1 := r 1 _ rfl
   rw [show off + (k * 10 + 1) = off + k * 10 + 1 by omega] at r1
   have r2 := r 2 _ rfl
   rw [show off + (k * 10 + 2) = off + k * 10 + 2 by omega] at r2
   have r3 := r 3 _ rfl
   rw [show off + (k * 10 + 3) = off + k * 10 + 3 by omega] at r3
   have r4 := r 4 _ rfl
   rw [show off + (k * 10 + 4) = off + k * 10 + 4 by omega] at r4
   have r5 := r 5 _ rfl
   rw [show off + (k * 10 + 5) = off + k * 10 + 5 by omega] at r5
   have r6 := r 6 _ rfl
   rw [show off + (k * 10 + 6) = off + k * 10 + 6 by omega] at r6
   have r7 := r 7 _ rfl
   rw [show off + (k * 10 + 7) = off + k * 10 + 7 by omega] at r7
   have r8 := r 8 _ rfl
   rw [show off + (k * 10 + 8) = off + k * 10 + 8 by omega] at r8
   have r9 := r 9 _ rfl
   rw [show off + (k * 10 + 9) = off + k * 10 + 9 by omega] at r9
   obtain ⟨W,hW⟩ : ∃ W,W = wr.alloc (.cells #[.int .i64 x.what,.string x.who,.int .i64 x.n,.int .i64 x.c.what,.string x.c.nm,.int .i64 x.c.p.1,.int .i64 x.c.p.2,.int .i64 x.c.len,.int .i64 x.c.ad,.string x.c.ow] 35) := ⟨_,rfl⟩
   have hW1 : H1 T w (fun j => j < w.heap.size) W H d S := by rw [hW]; exact h.same V (below_al (below_self wr) _)
   clear r hc hx
   by_cases hw0 : x.what = 0
   ·have hwh : x.what = 0 := hw0
    have e0 : (x.what == 0) = true := by simp; omega
    clear hwh hw0
    have P1 := hW1.open V x.who hz0.dp (by omega) hxo.who (by omega)
    go_wp2_with fail
    rw [<- hW]
    refine P1.mono ?_
    rintro e w1 ⟨rfl,h1,-⟩
    have hz := hz_open hz0 (S := S) x.who
    have hS1 := hoS_len d S x.who
    clear hW hW1 r0 r1 r2 r3 r4 r5 r6 r7 r8 r9
    have P2 := h1.all V hz.dp (by omega)
    clear P1
    go_wp2_with fail
    refine P2.mono ?_
    rintro e w2 ⟨q,cq,rfl,hcq,pr,b2⟩
    have h2 := h1.same V b2
    have P3 := auCheck (allP _) q cq w2 pr.at (all_few hz.dp (by omega)) (all_small hz.dp.ok) h2.en.mx
    rw [hz.au,show ev ((0 : Int),(0 : Int)).2 = .nilIface from rfl,show ((0 : Int),(0 : Int)).1 = 0 from rfl] at P3
    clear P2 h1 pr hcq b2
    go_wp2_with fail
    refine P3.mono ?_
    rintro e w3 ⟨rfl,b3⟩
    have h3 := h2.same V b3
    clear P3 h2 b3
    go_wp2_with fail
    exact ⟨⟨k + 1,m + 4,_,_,by omega,by omega,by go_num,by omega,hz.more (by omega),(by have := hS1; first | omega | simp),h3⟩,by simp [intOf]; omega⟩
   by_cases hw1 : x.what = 1
   ·have hwh : x.what = 1 := hw1
    have e0 : (x.what == 0) = false := by simp; omega
    have e1 : (x.what == 1) = true := by simp; omega
    clear hwh hw1
    have P1 := hW1.close V x.who hz0.dp (by omega) hxo.who
    go_wp2_with fail
    rw [<- hW]
    refine P1.mono ?_
    rintro e w1 ⟨rfl,h1,-⟩
    have hz := hz_close hz0 (S := S) x.who
    have hS1 := sDel_len S x.who
    clear hW hW1 r0 r1 r2 r3 r4 r5 r6 r7 r8 r9
    have P2 := h1.all V hz.dp (by omega)
    clear P1
    go_wp2_with fail
    refine P2.mono ?_
    rintro e w2 ⟨q,cq,rfl,hcq,pr,b2⟩
    have h2 := h1.same V b2
    have P3 := auCheck (allP _) q cq w2 pr.at (all_few hz.dp (by omega)) (all_small hz.dp.ok) h2.en.mx
    rw [hz.au,show ev ((0 : Int),(0 : Int)).2 = .nilIface from rfl,show ((0 : Int),(0 : Int)).1 = 0 from rfl] at P3
    clear P2 h1 pr hcq b2
    go_wp2_with fail
    refine P3.mono ?_
    rintro e w3 ⟨rfl,b3⟩
    have h3 := h2.same V b3
    clear P3 h2 b3
    go_wp2_with fail
    exact ⟨⟨k + 1,m + 4,_,_,by omega,by omega,by go_num,by omega,hz.more (by omega),(by have := hS1; first | omega | simp),h3⟩,by simp [intOf]; omega⟩
   by_cases hw2 : x.what = 2
   ·have hwh : x.what = 2 := hw2
    have e0 : (x.what == 0) = false := by simp; omega
    have e1 : (x.what == 1) = false := by simp; omega
    have e2 : (x.what == 2) = true := by simp; omega
    clear hwh hw2
    have P1 := hW1.quit V x.who hz0.dp (by omega) hxo.who
    go_wp2_with fail
    rw [<- hW]
    refine P1.mono ?_
    rintro e w1 ⟨rfl,h1,-⟩
    have hz := hz_quit hz0 (S := S) x.who
    have hS1 := sDel_len S x.who
    clear hW hW1 r0 r1 r2 r3 r4 r5 r6 r7 r8 r9
    have P2 := h1.all V hz.dp (by omega)
    clear P1
    go_wp2_with fail
    refine P2.mono ?_
    rintro e w2 ⟨q,cq,rfl,hcq,pr,b2⟩
    have h2 := h1.same V b2
    have P3 := auCheck (allP _) q cq w2 pr.at (all_few hz.dp (by omega)) (all_small hz.dp.ok) h2.en.mx
    rw [hz.au,show ev ((0 : Int),(0 : Int)).2 = .nilIface from rfl,show ((0 : Int),(0 : Int)).1 = 0 from rfl] at P3
    clear P2 h1 pr hcq b2
    go_wp2_with fail
    refine P3.mono ?_
    rintro e w3 ⟨rfl,b3⟩
    have h3 := h2.same V b3
    clear P3 h2 b3
    go_wp2_with fail
    exact ⟨⟨k + 1,m + 4,_,_,by omega,by omega,by go_num,by omega,hz.more (by omega),(by have := hS1; first | omega | simp),h3⟩,by simp [intOf]; omega⟩
   by_cases hw3 : x.what = 3
   ·have hwh : x.what = 3 := hw3
    have e0 : (x.what == 0) = false := by simp; omega
    have e1 : (x.what == 1) = false := by simp; omega
    have e2 : (x.what == 2) = false := by simp; omega
    have e3 : (x.what == 3) = true := by simp; omega
    clear hwh hw3
    have P1 := hW1.flush V hz0.dp (by omega)
    go_wp2_with fail
    rw [<- hW]
    refine P1.mono ?_
    rintro e w1 ⟨rfl,h1,-⟩
    have hz := hz0.fl
    have hS1 := Nat.le_refl S.length
    clear hW hW1 r0 r1 r2 r3 r4 r5 r6 r7 r8 r9
    have P2 := h1.all V hz.dp (by omega)
    clear P1
    go_wp2_with fail
    refine P2.mono ?_
    rintro e w2 ⟨q,cq,rfl,hcq,pr,b2⟩
    have h2 := h1.same V b2
    have P3 := auCheck (allP _) q cq w2 pr.at (all_few hz.dp (by omega)) (all_small hz.dp.ok) h2.en.mx
    rw [hz.au,show ev ((0 : Int),(0 : Int)).2 = .nilIface from rfl,show ((0 : Int),(0 : Int)).1 = 0 from rfl] at P3
    clear P2 h1 pr hcq b2
    go_wp2_with fail
    refine P3.mono ?_
    rintro e w3 ⟨rfl,b3⟩
    have h3 := h2.same V b3
    clear P3 h2 b3
    go_wp2_with fail
    exact ⟨⟨k + 1,m + 4,_,_,by omega,by omega,by go_num,by omega,hz.more (by omega),(by have := hS1; first | omega | simp),h3⟩,by simp [intOf]; omega⟩
   by_cases hw4 : x.what = 4
   ·have hwh : x.what = 4 := hw4
    have e0 : (x.what == 0) = false := by simp; omega
    have e1 : (x.what == 1) = false := by simp; omega
    have e2 : (x.what == 2) = false := by simp; omega
    have e3 : (x.what == 3) = false := by simp; omega
    have e4 : (x.what == 4) = true := by simp; omega
    clear hwh hw4
    have P1 := hW1.fail V x.n hxo.n hz0.dp (by omega)
    go_wp2_with fail
    rw [<- hW]
    refine P1.mono ?_
    rintro e w1 ⟨rfl,h1,-⟩
    have hz := hz0.fd (n := x.n) hxo.n.2
    have hS1 := Nat.le_refl S.length
    clear hW hW1 r0 r1 r2 r3 r4 r5 r6 r7 r8 r9
    have P2 := h1.all V hz.dp (by omega)
    clear P1
    go_wp2_with fail
    refine P2.mono ?_
    rintro e w2 ⟨q,cq,rfl,hcq,pr,b2⟩
    have h2 := h1.same V b2
    have P3 := auCheck (allP _) q cq w2 pr.at (all_few hz.dp (by omega)) (all_small hz.dp.ok) h2.en.mx
    rw [hz.au,show ev ((0 : Int),(0 : Int)).2 = .nilIface from rfl,show ((0 : Int),(0 : Int)).1 = 0 from rfl] at P3
    clear P2 h1 pr hcq b2
    go_wp2_with fail
    refine P3.mono ?_
    rintro e w3 ⟨rfl,b3⟩
    have h3 := h2.same V b3
    clear P3 h2 b3
    go_wp2_with fail
    exact ⟨⟨k + 1,m + 4,_,_,by omega,by omega,by go_num,by omega,hz.more (by omega),(by have := hS1; first | omega | simp),h3⟩,by simp [intOf]; omega⟩
   by_cases hw5 : x.what = 5
   ·have hwh : x.what = 5 := hw5
    have e0 : (x.what == 0) = false := by simp; omega
    have e1 : (x.what == 1) = false := by simp; omega
    have e2 : (x.what == 2) = false := by simp; omega
    have e3 : (x.what == 3) = false := by simp; omega
    have e4 : (x.what == 4) = false := by simp; omega
    have e5 : (x.what == 5) = true := by simp; omega
    clear hwh hw5
    have P1 := hW1.crash V x.n hxo.n hz0.dp (by omega)
    go_wp2_with fail
    rw [<- hW]
    refine P1.mono ?_
    rintro e w1 ⟨rfl,h1,-⟩
    have hz := hz0.cd x.n
    have hS1 := Nat.zero_le S.length
    clear hW hW1 r0 r1 r2 r3 r4 r5 r6 r7 r8 r9
    have P2 := h1.all V hz.dp (by omega)
    clear P1
    go_wp2_with fail
    refine P2.mono ?_
    rintro e w2 ⟨q,cq,rfl,hcq,pr,b2⟩
    have h2 := h1.same V b2
    have P3 := auCheck (allP _) q cq w2 pr.at (all_few hz.dp (by omega)) (all_small hz.dp.ok) h2.en.mx
    rw [hz.au,show ev ((0 : Int),(0 : Int)).2 = .nilIface from rfl,show ((0 : Int),(0 : Int)).1 = 0 from rfl] at P3
    clear P2 h1 pr hcq b2
    go_wp2_with fail
    refine P3.mono ?_
    rintro e w3 ⟨rfl,b3⟩
    have h3 := h2.same V b3
    clear P3 h2 b3
    go_wp2_with fail
    exact ⟨⟨k + 1,m + 4,_,_,by omega,by omega,by go_num,by omega,hz.more (by omega),(by have := hS1; first | omega | simp),h3⟩,by simp [intOf]; omega⟩
   by_cases hw6 : x.what = 6
   ·have hwh : x.what = 6 := hw6
    have e0 : (x.what == 0) = false := by simp; omega
    have e1 : (x.what == 1) = false := by simp; omega
    have e2 : (x.what == 2) = false := by simp; omega
    have e3 : (x.what == 3) = false := by simp; omega
    have e4 : (x.what == 4) = false := by simp; omega
    have e5 : (x.what == 5) = false := by simp; omega
    have e6 : (x.what == 6) = true := by simp; omega
    clear hwh hw6
    have P1 := hW1.once V x.c hz0.dp (by omega)
    go_wp2_with fail
    rw [<- hW]
    refine P1.mono ?_
    rintro e w1 ⟨u,rfl,row,h1,-⟩
    have hz := hz0.once x.c
    have hS1 := Nat.le_refl S.length
    clear hW hW1 r0 r1 r2 r3 r4 r5 r6 r7 r8 r9
    have P2 := h1.all V hz.dp (by omega)
    clear P1
    go_wp2_with fail
    refine P2.mono ?_
    rintro e w2 ⟨q,cq,rfl,hcq,pr,b2⟩
    have h2 := h1.same V b2
    have P3 := auCheck (allP _) q cq w2 pr.at (all_few hz.dp (by omega)) (all_small hz.dp.ok) h2.en.mx
    rw [hz.au,show ev ((0 : Int),(0 : Int)).2 = .nilIface from rfl,show ((0 : Int),(0 : Int)).1 = 0 from rfl] at P3
    clear P2 h1 pr hcq b2
    go_wp2_with fail
    refine P3.mono ?_
    rintro e w3 ⟨rfl,b3⟩
    have h3 := h2.same V b3
    clear P3 h2 b3
    go_wp2_with fail
    exact ⟨⟨k + 1,m + 4,_,_,by omega,by omega,by go_num,by omega,hz.more (by omega),(by have := hS1; first | omega | simp),h3⟩,by simp [intOf]; omega⟩
   ·have hwh : True := trivial
    have e0 : (x.what == 0) = false := by simp; omega
    have e1 : (x.what == 1) = false := by simp; omega
    have e2 : (x.what == 2) = false := by simp; omega
    have e3 : (x.what == 3) = false := by simp; omega
    have e4 : (x.what == 4) = false := by simp; omega
    have e5 : (x.what == 5) = false := by simp; omega
    have e6 : (x.what == 6) = false := by simp; omega
    clear hwh
    have P1 := hW1.ask V x.who x.c hz0.dp (by omega) hxo.who
    go_wp2_with fail
    rw [<- hW]
    refine P1.mono ?_
    rintro e w1 ⟨u,rfl,row,h1',-⟩
    have hz := hz_ask hz0 (S := S) x.who x.c
    have h1 := h1'.mono (fun j hj => .inl hj) h.old
    clear h1'
    have hS1 := Nat.le_refl S.length
    clear hW hW1 r0 r1 r2 r3 r4 r5 r6 r7 r8 r9
    have P2 := h1.all V hz.dp (by omega)
    clear P1
    go_wp2_with fail
    refine P2.mono ?_
    rintro e w2 ⟨q,cq,rfl,hcq,pr,b2⟩
    have h2 := h1.same V b2
    have P3 := auCheck (allP _) q cq w2 pr.at (all_few hz.dp (by omega)) (all_small hz.dp.ok) h2.en.mx
    rw [hz.au,show ev ((0 : Int),(0 : Int)).2 = .nilIface from rfl,show ((0 : Int),(0 : Int)).1 = 0 from rfl] at P3
    clear P2 h1 pr hcq b2
    go_wp2_with fail
    refine P3.mono ?_
    rintro e w3 ⟨rfl,b3⟩
    have h3 := h2.same V b3
    clear P3 h2 b3
    go_wp2_with fail
    exact ⟨⟨k + 1,m + 4,_,_,by omega,by omega,by go_num,by omega,hz.more (by omega),(by have := hS1; first | omega | simp),h3⟩,by simp [intOf]; omega⟩
  ·by_cases h1 : k < l.length
   ·have g1 : decide ((k : Int) < (l.length : Int)) = true := by simp; omega
    have g2 : decide ((k : Int) < 60) = false := by simp; omega
    go_wp2_with fail
    go_meet
    case rel => exact h.bl
   ·have g1 : decide ((k : Int) < (l.length : Int)) = false := by simp; omega
    go_wp2_with fail
    go_meet
    case rel => exact h.bl
end
end Go.Proofs.YthaggkmammfpbaaGreatDoor.Pa
