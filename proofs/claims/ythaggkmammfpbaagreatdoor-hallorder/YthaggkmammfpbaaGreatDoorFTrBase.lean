/- -/
import Derived.Test.YthaggkmammfpbaaGreatDoorFAdBase
import Derived.Test.YthaggkmammfpbaaGreatDoorFCvMath
import Derived.Deep.AppendLies
import Derived.OneCell
import Derived.Shelf.Abstract
import Derived.Deep.CutBlock
import Derived.Test.YthaggkmammfpbaaGreatDoorFSpWalkA
set_option maxHeartbeats 2000000
namespace Go.Proofs.YthaggkmammfpbaaGreatDoor.Ta
open Go.RowKit
abbrev lo (l : List Bur.Sp) (i : Nat) : Int := (l.getD i (0,0)).1
abbrev hi (l : List Bur.Sp) (i : Nat) : Int := (l.getD i (0,0)).2
def SpC (w : World) (b off : Nat) (l : List Bur.Sp) : Prop :=
 ∀ i,i < l.length -> w.cell? ⟨b,off + i * 2,none⟩ = some (.int .i64 (lo l i)) /\ w.cell? ⟨b,off + i * 2 + 1,none⟩ = some (.int .i64 (hi l i))
def SpAt (w : World) (p : Option Addr) (l : List Bur.Sp) : Prop :=
 0 < l.length -> ∃ b off,p = some ⟨b,off,none⟩ /\ b < w.heap.size /\ SpC w b off l
theorem SpAt.step {w w' : World} {p : Option Addr} {l : List Bur.Sp} (h : SpAt w p l) (hb : Below w.heap.size w w') : SpAt w' p l := by
 intro hl
 obtain ⟨b,off,rfl,hlt,hc⟩ := h hl
 refine ⟨b,off,rfl,Nat.lt_of_lt_of_le hlt hb.size,fun i hi => ?_⟩
 rw [hb.cell (p := ⟨b,off + i * 2,none⟩) hlt,hb.cell (p := ⟨b,off + i * 2 + 1,none⟩) hlt]
 exact hc i hi
theorem SpAt.alloc {w : World} {p : Option Addr} {l : List Bur.Sp} (h : SpAt w p l) (o : Obj) : SpAt (w.alloc o) p l := h.step (below_al (below_self _) _)
theorem SpAt.nil (w : World) (p : Option Addr) : SpAt w p [] := fun h => by simp at h
theorem drop_sp {l : List Bur.Sp} {k : Nat} (h : k < l.length) : l.drop k = (lo l k,hi l k) :: l.drop (k + 1) := by
 rw [List.drop_eq_getElem_cons h]
 simp only [lo,hi,List.getD,List.getElem?_eq_getElem h,Option.getD_some]
theorem own_below {w w' : World} {B e size n : Nat} {v : Value} {xs : List Value} (h : w.ownsRow B e size v n xs) (hb : Below w.heap.size w w') : w'.ownsRow B e size v n xs := by
 refine ⟨h.1,?_⟩
 rcases h.2 with hn | ⟨g,cap,cur,rfl,h1,hg,rest⟩
 ·exact .inl hn
 ·exact .inr ⟨g,cap,cur,rfl,h1,(hb.block g (Array.getElem?_eq_some_iff.1 hg).1).trans hg,rest⟩
def spV (l : List Bur.Sp) : List Value := l.flatMap fun s => [.int .i64 s.1,.int .i64 s.2]
theorem spV_len : ∀ l : List Bur.Sp,(spV l).length = l.length * 2
 | [] => rfl
 | s :: r => by show ((spV r).length + 1 + 1) = _; rw [spV_len r,List.length_cons]; omega
theorem spV_app (l m : List Bur.Sp) : spV (l ++ m) = spV l ++ spV m := by simp [spV]
theorem spV_at : ∀ (l : List Bur.Sp) (i : Nat),i < l.length -> (spV l)[i * 2]? = some (.int .i64 (lo l i)) /\ (spV l)[i * 2 + 1]? = some (.int .i64 (hi l i))
 | s :: r,0,_ => ⟨rfl,rfl⟩
 | s :: r,i + 1,h => by
  have := spV_at r i (by simpa using h)
  rw [show (i + 1) * 2 = i * 2 + 2 from by omega,show i * 2 + 2 + 1 = i * 2 + 1 + 2 from by omega]
  exact this
theorem spAt_own {w : World} {B n cap : Nat} {p : Option Addr} {l : List Bur.Sp} (h : w.ownsRow B 31 2 (.slice p n cap) l.length (spV l)) : n = l.length /\ SpAt w p l := by
 rcases h.2 with ⟨h0,h1⟩ | ⟨g,cap',cur,h0,_,hg,_,_,_,_⟩
 ·cases h0; exact ⟨h1.symm,fun hp => by omega⟩
 ·cases h0
  refine ⟨rfl,fun _ => ⟨g,0,rfl,(Array.getElem?_eq_some_iff.1 hg).1,fun i hi => ?_⟩⟩
  have := spV_at l i hi
  rw [Nat.zero_add,h.cellAt (i * 2) (by omega),h.cellAt (i * 2 + 1) (by omega)]
  exact this
end Go.Proofs.YthaggkmammfpbaaGreatDoor.Ta
namespace Go.Proofs.YthaggkmammfpbaaGreatDoor.Ta
open Go.RowKit
theorem eqGuard_pfx : Tryz.prog.eqGuardType Tryz.prog.depth 31 = false := by kernel_rfl
theorem eqPfx (a l a2 l2 : Int) (w : World) : (Op.equalIn 10000 31 (pfx a l) (pfx a2 l2)).run Tryz.prog w = .ok (Bur.sm (a,l) (a2,l2)) w := by
 have u3 := Tryz.underlying3
 have a3 := Tryz.isAgg3
 have z3 := Tryz.sizeOf3
 have hS : Tryz.prog.underlying 31 = some (.struct (Tryz.prog.fieldsOf 31)) := by kernel_rfl
 have hp : Tryz.prog.stoodInHeld 31 = false := by kernel_rfl
 rw [show (10000 : Nat) = 9999 + 1 from rfl,run_equalIn_agg w 9999 31 _ _ hS hp]
 simp only [Program.fieldsOf,Tryz.underlying31]
 go_simp
 unfold Bur.sm
 by_cases h1 : a = a2 <;> by_cases h2 : l = l2 <;> simp [h1,h2]
end Go.Proofs.YthaggkmammfpbaaGreatDoor.Ta
namespace Go.Proofs.YthaggkmammfpbaaGreatDoor.Ta
open Go.RowKit
def idx (P : Bur.Sp -> Bool) : Int -> List Bur.Sp -> Int
 | _,[] => -1
 | k,s :: r => if P s = true then k else idx P (k + 1) r
theorem idx_any (P : Bur.Sp -> Bool) : ∀ (l : List Bur.Sp) (k : Int),0 <= k -> decide (0 <= idx P k l) = l.any P
 | [],k,_ => by simp [idx]
 | s :: r,k,hk => by
  rw [idx,List.any_cons]
  cases h : P s with
  | true => simp [hk]
  | false => simp only [Bool.false_eq_true,if_false,Bool.false_or]; exact idx_any P r (k + 1) (by omega)
theorem indexFunc (g : Nat) (lb : Array Value) (eg : ∀ args w,(callFunc g args).run Tryz.prog w = .ok (.enter g args) w) (P : Bur.Sp -> Bool) (q : Option Addr) (cap : Nat) (l : List Bur.Sp) (w : World) (hz : l.length <= 1000000) (hq : SpAt w q l)
  (hF : ∀ (i : Nat) (w1 : World),i < l.length -> Below w.heap.size w w1 -> Calls Tryz.prog g (#[pfx (lo l i) (hi l i)] ++ lb) w1 fun e w' => e = .returned (.bool (P (lo l i,hi l i))) /\ Below w1.heap.size w1 w') :
  Calls Tryz.prog 292 #[.slice q l.length cap,.func (.func g) #[] lb] w fun e w' => e = .returned (.int .i64 (idx P 0 l)) /\ Below w.heap.size w w' := by
 go_enter Tryz.func292,Tryz.ntmps292
 go_wp2
 go_loopw [8] (fun i wr => ∃ k : Nat,k <= l.length /\ i = .int .i64 k /\ Hid (idx P 0 l = idx P k (l.drop k)) /\ Below w.heap.size w wr) (fun i _ => l.length - (intOf i).toNat)
 case atStart => exact ⟨0,by omega,rfl,rfl,below_self _⟩
 case round =>
  obtain ⟨k,hk,rfl,R,hb⟩ := hrel
  have hsz := hb.size
  by_cases hlt : k < l.length
  ·have hlt' : (k : Int) < (l.length : Int) := by omega
   obtain ⟨b,off,rfl,hbl,hc⟩ := hq (by omega)
   have HF := hF k wr hlt hb
   obtain ⟨x,hx⟩ : ∃ x,x = lo l k := ⟨_,rfl⟩
   obtain ⟨y,hy⟩ : ∃ y,y = hi l k := ⟨_,rfl⟩
   rw [<- hx,<- hy] at HF
   have c0 : wr.cell? ⟨b,off + k * 2,none⟩ = some (.int .i64 x) := by rw [hx]; exact (hb.cell (p := ⟨b,off + k * 2,none⟩) hbl).trans (hc k hlt).1
   have c1 : wr.cell? ⟨b,off + k * 2 + 1,none⟩ = some (.int .i64 y) := by rw [hy]; exact (hb.cell (p := ⟨b,off + k * 2 + 1,none⟩) hbl).trans (hc k hlt).2
   have hd : Hid (l.drop k = (x,y) :: l.drop (k + 1)) := by show _ = _; rw [hx,hy]; exact drop_sp hlt
   clear hx hy hc hq hF
   cases hp : P (x,y)
   ·have R2 : Hid (idx P 0 l = idx P ((k + 1 : Nat) : Int) (l.drop (k + 1))) := by
     show _ = _
     rw [R.out,hd.out,idx,if_neg (by simp [hp])]
     rfl
    rw [hp] at HF
    clear R hd hp
    go_wp2_with (go_at_fn g; refine HF.mono ?_; rintro e w1 ⟨rfl,hb1⟩; have hb2 := below_via hb hb1; clear hb1)
    exact ⟨⟨k + 1,by omega,by go_num,R2,hb2⟩,by simp [intOf]; omega⟩
   ·have R2 : Hid (idx P 0 l = (k : Int)) := by
     show _ = _
     rw [R.out,hd.out,idx,if_pos hp]
    rw [hp] at HF
    clear R hd hp
    go_wp2_with (go_at_fn g; refine HF.mono ?_; rintro e w1 ⟨rfl,hb1⟩; have hb2 := below_via hb hb1; clear hb1)
    go_ret
    exact ⟨by rw [R2.out]; rfl,hb2⟩
  ·have R2 : Hid (idx P 0 l = -1) := by
    show _ = _
    rw [R.out,List.drop_eq_nil_of_le (by omega)]
    rfl
   clear R hF hq
   go_wp2
   go_ret
   exact ⟨by rw [R2.out]; rfl,hb⟩
def PfAt (w : World) (b : Nat) (p : Bur.Sp) : Prop := b < w.heap.size /\ w.cell? ⟨b,0,none⟩ = some (.int .i64 p.1) /\ w.cell? ⟨b,1,none⟩ = some (.int .i64 p.2)
theorem PfAt.new (w : World) (a l : Int) : PfAt (w.alloc (.cells #[.int .i64 a,.int .i64 l] 31)) w.heap.size (a,l) := ⟨by simp,by simp,by simp⟩
def LsAt (w : World) (c : Nat) (q : Option Addr) (l : List Bur.Sp) (cap : Nat) : Prop := c < w.heap.size /\ w.cell? ⟨c,0,none⟩ = some (.slice q l.length cap) /\ SpAt w q l
end Go.Proofs.YthaggkmammfpbaaGreatDoor.Ta
namespace Go.Proofs.YthaggkmammfpbaaGreatDoor.Ta
open Go.RowKit
theorem indexP (p : Bur.Sp) (q : Option Addr) (cap : Nat) (l : List Bur.Sp) (w : World) (hz : l.length <= 1000000) (hq : SpAt w q l) :
  Calls Tryz.prog 293 #[.slice q l.length cap,pfx p.1 p.2] w fun e w' => e = .returned (.int .i64 (idx (fun s => Bur.sm p s) 0 l)) /\ Below w.heap.size w w' := by
 obtain ⟨x,y⟩ := p
 have hm := eqGuard_pfx
 have pb : PfAt (w.alloc (.cells #[.int .i64 x,.int .i64 y] 31)) w.heap.size (x,y) := PfAt.new w x y
 have hb0 : Below w.heap.size w (w.alloc (.cells #[.int .i64 x,.int .i64 y] 31)) := below_al (below_self _) _
 go_enter Tryz.func293,Tryz.ntmps293
 go_wp2
 go_loopw [8] (fun i wr => ∃ k : Nat,k <= l.length /\ i = .int .i64 k /\ Hid (idx (fun s => Bur.sm (x,y) s) 0 l = idx (fun s => Bur.sm (x,y) s) k (l.drop k)) /\ Below w.heap.size w wr /\ PfAt wr w.heap.size (x,y)) (fun i _ => l.length - (intOf i).toNat)
 case atStart => exact ⟨0,by omega,rfl,rfl,hb0,pb⟩
 case round =>
  obtain ⟨k,hk,rfl,R,hb,pbw⟩ := hrel
  clear pb hb0
  have hsz := hb.size
  by_cases hlt : k < l.length
  ·have hlt' : (k : Int) < (l.length : Int) := by omega
   obtain ⟨b,off,rfl,hbl,hc⟩ := hq (by omega)
   obtain ⟨p0,p1,p2⟩ := pbw
   have c0 : wr.cell? ⟨b,off + k * 2,none⟩ = some (.int .i64 (lo l k)) := (hb.cell (p := ⟨b,off + k * 2,none⟩) hbl).trans (hc k hlt).1
   have c1 : wr.cell? ⟨b,off + k * 2 + 1,none⟩ = some (.int .i64 (hi l k)) := (hb.cell (p := ⟨b,off + k * 2 + 1,none⟩) hbl).trans (hc k hlt).2
   have hd0 := drop_sp hlt
   obtain ⟨u,hu⟩ : ∃ u,lo l k = u := ⟨_,rfl⟩
   obtain ⟨v,hv⟩ : ∃ v,hi l k = v := ⟨_,rfl⟩
   rw [hu] at c0 hd0
   rw [hv] at c1 hd0
   have hd : Hid _ := hd0
   have E := fun w => eqPfx x y u v w
   clear hc hq hd0 hu hv
   obtain ⟨s,hs⟩ : ∃ s,Bur.sm (x,y) (u,v) = s := ⟨_,rfl⟩
   rw [hs] at E
   cases s
   ·have R2 : Hid (idx (fun s => Bur.sm (x,y) s) 0 l = idx (fun s => Bur.sm (x,y) s) ((k + 1 : Nat) : Int) (l.drop (k + 1))) := by
     show _ = _
     rw [R.out,hd.out,idx,if_neg (by rw [hs]; simp)]
     rfl
    clear R hd hs
    go_wp2
    go_quiet (fail)
    go_wp2
    exact ⟨⟨k + 1,by omega,by go_num,R2,below_drewN hb _,⟨p0,p1,p2⟩⟩,by simp [intOf]; omega⟩
   ·have R2 : Hid (idx (fun s => Bur.sm (x,y) s) 0 l = (k : Int)) := by
     show _ = _
     rw [R.out,hd.out,idx,if_pos hs]
    clear R hd hs
    go_wp2
    go_quiet (fail)
    go_wp2
    go_ret
    exact ⟨by rw [R2.out]; rfl,below_drewN hb _⟩
  ·have R2 : Hid (idx (fun s => Bur.sm (x,y) s) 0 l = -1) := by
    show _ = _
    rw [R.out,List.drop_eq_nil_of_le (by omega)]
    rfl
   clear R hq pbw
   go_wp2
   go_ret
   exact ⟨by rw [R2.out]; rfl,hb⟩
theorem containsP (p : Bur.Sp) (q : Option Addr) (cap : Nat) (l : List Bur.Sp) (w : World) (hz : l.length <= 1000000) (hq : SpAt w q l) :
  Calls Tryz.prog 254 #[.slice q l.length cap,pfx p.1 p.2] w fun e w' => e = .returned (.bool (Bur.hasP p l)) /\ Below w.heap.size w w' := by
 obtain ⟨x,y⟩ := p
 have E : Hid (decide (0 <= idx (fun s => Bur.sm (x,y) s) 0 l) = Bur.hasP (x,y) l) := by
  show _ = _
  rw [idx_any _ l 0 (by omega)]
  unfold Bur.hasP
  congr 1
  funext s
  exact Bur.sm_comm _ _
 go_enter Tryz.func254,Tryz.ntmps254
 go_wp2_with fail
 refine (indexP (x,y) q cap l _ hz (hq.alloc _)).mono ?_
 rintro e w1 ⟨rfl,hb1⟩
 have hb2 := below_via (below_al (below_self w) _) hb1
 obtain ⟨n,hn⟩ : ∃ n,idx (fun s => Bur.sm (x,y) s) 0 l = n := ⟨_,rfl⟩
 rw [hn] at E ⊢
 clear hb1 hn
 go_wp2
 go_ret
 exact ⟨by rw [<- E.out]; rfl,hb2⟩
end Go.Proofs.YthaggkmammfpbaaGreatDoor.Ta
namespace Go.Proofs.YthaggkmammfpbaaGreatDoor.Sa
open Go.RowKit
theorem checkLen (a z n : Int) (w : World) : Calls Tryz.prog 295 #[pfx a z,.int .i64 n] w fun e w' => e = .returned (ev (Bur.lnF (a,z) n)) /\ Below w.heap.size w w' := by
 by_cases h : n < z
 ·have E : Hid (Bur.lnF (a,z) n = 1) := if_pos (.inl h)
  go_enter Tryz.func295,Tryz.ntmps295
  go_wp2
  go_ret
  exact ⟨by rw [E.out]; rfl,below_al (below_self _) _⟩
 ·by_cases h2 : 32 < n
  ·have E : Hid (Bur.lnF (a,z) n = 1) := if_pos (.inr h2)
   go_enter Tryz.func295,Tryz.ntmps295
   go_wp2
   go_ret
   exact ⟨by rw [E.out]; rfl,below_al (below_self _) _⟩
  ·have E : Hid (Bur.lnF (a,z) n = 0) := if_neg (by show ¬ (n < z \/ 32 < n); omega)
   go_enter Tryz.func295,Tryz.ntmps295
   go_wp2
   go_ret
   exact ⟨by rw [E.out]; rfl,below_al (below_self _) _⟩
theorem fit (lo hi n : Int) (w : World) (h0 : 0 <= lo) (h1 : lo <= hi) (h2 : hi <= 4294967295) (n0 : 0 <= n) (n1 : n <= 32) :
  Calls Tryz.prog 256 #[pfx lo hi,.int .i64 n] w fun e w' => e = .returned (.tuple #[.int .i64 (Bur.upn (Bur.sz n) lo),.int .i64 (Bur.plc (Bur.sz n) (lo,hi))]) /\ Below w.heap.size w w' := by
 have hz := Bur.sz_pos n
 have hz2 := Bur.sz_le32 n0
 have e0 : wrap64 (2 ^ (32 - n).toNat) = Bur.sz n := by
  unfold Bur.sz at *
  exact IntWalk.wrap64_in _ (by omega)
 have F1 : wrap64 (wrap64 (lo + Bur.sz n) - 1) = lo + Bur.sz n - 1 := by rw [IntWalk.wrap64_in (lo + Bur.sz n) (by omega),IntWalk.wrap64_in _ (by omega)]
 have q1 : 0 <= (lo + Bur.sz n - 1) / Bur.sz n := Int.ediv_nonneg (by omega) (by omega)
 have q2 : (lo + Bur.sz n - 1) / Bur.sz n <= lo + Bur.sz n - 1 := Int.ediv_le_self _ (by omega)
 have q3 : 0 <= (hi + 1) / Bur.sz n := Int.ediv_nonneg (by omega) (by omega)
 have q4 : (hi + 1) / Bur.sz n <= hi + 1 := Int.ediv_le_self _ (by omega)
 obtain ⟨u1,u2,u3⟩ := Bur.upn_spec hz lo
 have F2 : wrap64 ((lo + Bur.sz n - 1).tdiv (Bur.sz n)) = (lo + Bur.sz n - 1) / Bur.sz n := by rw [Int.tdiv_eq_ediv_of_nonneg (by omega),IntWalk.wrap64_in _ (by omega)]
 have F3 : wrap64 ((hi + 1).tdiv (Bur.sz n)) = (hi + 1) / Bur.sz n := by rw [Int.tdiv_eq_ediv_of_nonneg (by omega),IntWalk.wrap64_in _ (by omega)]
 have F4 : wrap64 ((lo + Bur.sz n - 1) / Bur.sz n * Bur.sz n) = Bur.upn (Bur.sz n) lo := IntWalk.wrap64_in (Bur.upn (Bur.sz n) lo) (by omega)
 have F5 : wrap64 ((hi + 1) / Bur.sz n - (lo + Bur.sz n - 1) / Bur.sz n) = (hi + 1) / Bur.sz n - (lo + Bur.sz n - 1) / Bur.sz n := IntWalk.wrap64_in _ (by omega)
 have P : Hid ((Bur.plc (Bur.sz n) (lo,hi) : Int) = max 0 ((hi + 1) / Bur.sz n - (lo + Bur.sz n - 1) / Bur.sz n)) := Bur.plc_eq hz (lo,hi)
 go_enter Tryz.func256,Tryz.ntmps256
 go_wp2
 all_goals simp only [e0,F1,F2,F3,F4,F5] at *
 all_goals
  go_ret2
  refine ⟨?_,below_al (below_self _) _⟩
  rw [P.out]
  first | rw [Int.max_eq_right (by omega)] | rw [Int.max_eq_left (by omega)]
  rfl
end Go.Proofs.YthaggkmammfpbaaGreatDoor.Sa
