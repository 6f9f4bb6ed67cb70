/- Package hall: a session is looked for, ended, opened, closed; it quits. -/
import Derived.Test.YthaggkmammfpbaaGreatDoorEHlB
import Derived.Test.YthaggkmammfpbaaGreatDoorEPlU
import Derived.Test.YthaggkmammfpbaaGreatDoorEVsMath
import Derived.Test.YthaggkmammfpbaaGreatDoorEVsBase
import Derived.Deep.CutBlock
import Derived.BigQuiet
import Derived.Test.YthaggkmammfpbaaGreatDoorEPlIs
namespace Go.Proofs.YthaggkmammfpbaaGreatDoor.Pa
open Go.RowKit Go.Maps Go.WideShapes Go.ChangeMaps Vs

theorem zeroI (w : World) : (zeroValue 3).run Tryz.prog w = .ok (.int .i64 0) w := by kernel_rfl
def sF (S : Ses) (k : ByteArray) : Int := if (sId S k).isSome = true then 0 else 4
def sN (S : Ses) (k : ByteArray) : Int := (sId S k).getD 0
section
variable {T : Td} {w w' : World} {G F : Nat → Prop} {H B M n : Nat} {D : DataW Value} {d : Dk} {S : Ses}
theorem hlFind (h : HlX T w G H d S F B M n D) (k : ByteArray) (hk : k.size ≤ maxLen) :
    Calls Tryz.prog 98 #[.pointer (some ⟨H, 0, none⟩), .string k] w fun e w' => e = .returned (.tuple #[.int .i64 (sN S k), ev (sF S k)]) ∧ w' = w := by
  have c1 := h.hh.c1
  have l1 := run_lookS 178 3 true Tryz.underlying178 (zeroI w) h.mp k hk
  rw [h.sr k] at l1
  unfold sN sF
  cases e : sId S k with
  | none =>
    rw [e] at l1
    simp only [if_true, Option.map_none, Option.getD_none, Option.isSome_none] at l1
    rw [if_neg (by simp), show ev 4 = errN 4 from rfl]
    clear h
    go_enter Tryz.func98, Tryz.ntmps98
    go_wp2
    go_ret2
    exact ⟨rfl, rfl⟩
  | some i =>
    rw [e] at l1
    simp only [if_true, Option.map_some, Option.getD_some, Option.isSome_some] at l1
    rw [if_pos (by simp), ev_0]
    clear h
    go_enter Tryz.func98, Tryz.ntmps98
    go_wp2
    go_ret2
    exact ⟨rfl, rfl⟩
theorem sesDel {D : DataW Value} {S : Ses} (h : SesR D S) (k : ByteArray) : SesR (D.del (kS k)) (sDel S k) := fun j => by
  rw [sId_del]
  by_cases e : j = k
  · rw [if_pos e, e, look_del]; rfl
  · rw [if_neg e, look_del_other (kS_ne e)]; exact h j
theorem hlEnd (V : DFace T) (h : HlX T w G H d S F B M n D) (k : ByteArray) (hk : k.size ≤ maxLen) :
    Calls Tryz.prog 91 #[.pointer (some ⟨H, 0, none⟩), .string k] w fun e w' => e = .returned (.tuple #[.int .i64 (sN S k), ev (sF S k)]) ∧ Hp T G H w w' d (sDel S k) := by
  have c1 := h.hh.c1
  have K := hlFind h k hk
  obtain ⟨w1, hrun, ho1, hg1, hs1⟩ := run_delS 178 3 Tryz.underlying178 h.mp k hk
  have P : Hid (Hp T G H w w1 d (sDel S k)) := h.ses V (grown_butM hg1) ho1 (sesDel h.sr k) (sDel_nd h.nd)
  clear ho1 hg1 h
  obtain ⟨v, hv, hv1⟩ : ∃ v : Value, Hid (v = ev (sF S k)) ∧ (v = .nilIface ∨ v = errN 4) := ⟨_, rfl, by unfold sF; split; exact .inl ev_0; exact .inr rfl⟩
  rw [← hv.out] at K ⊢
  clear hv
  rcases hv1 with rfl | rfl
  all_goals (
    go_enter Tryz.func91, Tryz.ntmps91
    go_wp2_with (go_at_call 98; refine K.mono ?_; rintro e w2 ⟨rfl, hw⟩; have := hw.symm; subst this)
    go_ret2
    exact ⟨rfl, P.out⟩)
def hoF (d : Dk) (S : Ses) (k : ByteArray) : Int := if Bur.isN k.data.toList = true then (if (sId S k).isSome = true then 6 else bgF d) else 5
def hoD (d : Dk) (S : Ses) (k : ByteArray) : Dk := if Bur.isN k.data.toList = true ∧ sId S k = none then bgD d else d
def hoS (d : Dk) (S : Ses) (k : ByteArray) : Ses := if hoF d S k = 0 then S ++ [(k, bgN d)] else S
def hcF (d : Dk) (S : Ses) (k : ByteArray) : Int := match sId S k with
  | none => 4
  | some i => cmF d i
def hcN (d : Dk) (S : Ses) (k : ByteArray) : Int := match sId S k with
  | none => 0
  | some i => cmN d i
def hcD (d : Dk) (S : Ses) (k : ByteArray) : Dk := match sId S k with
  | none => d
  | some i => cmD d i
def hqF (d : Dk) (S : Ses) (k : ByteArray) : Int := match sId S k with
  | none => 4
  | some i => abF d i
def hqD (d : Dk) (S : Ses) (k : ByteArray) : Dk := match sId S k with
  | none => d
  | some i => opDel d i
theorem hallClose (V : DFace T) (h : Hl T w G H d S) (ok : OkD d) (sm : Sm d) (sz : Spz d) (k : ByteArray) (hk : k.size ≤ maxLen) :
    Calls Tryz.prog 28 #[.pointer (some ⟨H, 0, none⟩), .string k] w fun e w' => e = .returned (.tuple #[.int .i64 (hcN d S k), ev (hcF d S k)]) ∧ Hp T G H w w' (hcD d S k) (sDel S k) := by
  obtain ⟨F, B, M, n, D, hx⟩ := h
  have K := hlEnd V hx k hk
  unfold hcN hcF hcD
  unfold sN sF at K
  cases e : sId S k with
  | none =>
    rw [e] at K
    simp only [Option.getD_none, Option.isSome_none] at K
    rw [if_neg (by simp), show ev 4 = errN 4 from rfl] at K
    simp only
    rw [show ev 4 = errN 4 from rfl]
    go_enter Tryz.func28, Tryz.ntmps28
    go_wp2_with (go_at_call 91; refine K.mono ?_; clear K; rintro e w1 ⟨rfl, hp⟩)
    go_ret2
    exact ⟨rfl, hp⟩
  | some i =>
    rw [e] at K
    simp only [Option.getD_some, Option.isSome_some] at K
    rw [if_pos (by simp), ev_0] at K
    simp only
    obtain ⟨v, hv, hv1⟩ : ∃ v : Value, Hid (v = ev (cmF d i)) ∧ (v = .nilIface ∨ ∃ f, v = errN f) := ⟨_, rfl, by by_cases q : cmF d i = 0; exact .inl (by rw [q, ev_0]); exact .inr ⟨_, ev_ne q⟩⟩
    rw [← hv.out]
    have K2 : ∀ {w1 : World} {F1 : Nat → Prop} {B1 : Nat}, Ds T w1 F1 B1 d → Calls Tryz.prog 15 #[.pointer (some ⟨B1, 0, none⟩), .int .i64 i] w1 fun e w' => e = .returned (.tuple #[.int .i64 (cmN d i), v]) ∧ Dj T F1 w1 w' B1 (cmD d i) := fun hd => by
      rw [hv.out]
      exact (V.commit i hd.t ok sm hd.lt sz).mono (fun e w' q => ⟨q.1, Dj.of hd q.2.1 (fun j hj => hj) q.2.2⟩)
    clear hv ok sm sz
    generalize cmN d i = nn at K2 ⊢
    generalize cmD d i = d2 at K2 ⊢
    rcases hv1 with rfl | ⟨f, rfl⟩
    all_goals (
      go_enter Tryz.func28, Tryz.ntmps28
      go_wp2_with (first
        | (go_at_call 91; refine K.mono ?_; clear K; rintro e w1 ⟨rfl, G1, ⟨F1, B1, M1, n1, D1, hx1⟩, hn1, hb1⟩; have c0 := hx1.hh.c0; have KC := K2 hx1.ds)
        | (go_at_call 15; refine KC.mono ?_; clear KC; rintro e w2 ⟨rfl, dj⟩))
      go_ret2
      obtain ⟨F2, q1, q2⟩ := dj.ex
      exact ⟨rfl, Hp.then hn1 hb1 (hx1.desk q1 q2 dj.bt)⟩)
theorem hallQuit (V : DFace T) (h : Hl T w G H d S) (ok : OkD d) (sm : Sm d) (k : ByteArray) (hk : k.size ≤ maxLen) :
    Calls Tryz.prog 30 #[.pointer (some ⟨H, 0, none⟩), .string k] w fun e w' => e = .returned (ev (hqF d S k)) ∧ Hp T G H w w' (hqD d S k) (sDel S k) := by
  obtain ⟨F, B, M, n, D, hx⟩ := h
  have K := hlEnd V hx k hk
  unfold hqF hqD
  unfold sN sF at K
  cases e : sId S k with
  | none =>
    rw [e] at K
    simp only [Option.getD_none, Option.isSome_none] at K
    rw [if_neg (by simp), show ev 4 = errN 4 from rfl] at K
    simp only
    rw [show ev 4 = errN 4 from rfl]
    go_enter Tryz.func30, Tryz.ntmps30
    go_wp2_with (go_at_call 91; refine K.mono ?_; clear K; rintro e w1 ⟨rfl, hp⟩)
    go_ret
    exact ⟨rfl, hp⟩
  | some i =>
    rw [e] at K
    simp only [Option.getD_some, Option.isSome_some] at K
    rw [if_pos (by simp), ev_0] at K
    simp only
    obtain ⟨v, hv, hv1⟩ : ∃ v : Value, Hid (v = ev (abF d i)) ∧ (v = .nilIface ∨ ∃ f, v = errN f) := ⟨_, rfl, by by_cases q : abF d i = 0; exact .inl (by rw [q, ev_0]); exact .inr ⟨_, ev_ne q⟩⟩
    rw [← hv.out]
    have K2 : ∀ {w1 : World} {F1 : Nat → Prop} {B1 : Nat}, Ds T w1 F1 B1 d → Calls Tryz.prog 17 #[.pointer (some ⟨B1, 0, none⟩), .int .i64 i] w1 fun e w' => e = .returned v ∧ Dj T F1 w1 w' B1 (opDel d i) := fun hd => by
      rw [hv.out]
      exact (V.abort i hd.t ok sm hd.lt).mono (fun e w' q => ⟨q.1, Dj.of hd q.2.1 (fun j hj => hj) q.2.2⟩)
    clear hv ok sm
    generalize opDel d i = d2 at K2 ⊢
    rcases hv1 with rfl | ⟨f, rfl⟩
    all_goals (
      go_enter Tryz.func30, Tryz.ntmps30
      go_wp2_with (first
        | (go_at_call 91; refine K.mono ?_; clear K; rintro e w1 ⟨rfl, G1, ⟨F1, B1, M1, n1, D1, hx1⟩, hn1, hb1⟩; have c0 := hx1.hh.c0; have KC := K2 hx1.ds)
        | (go_at_call 17; refine KC.mono ?_; clear KC; rintro e w2 ⟨rfl, dj⟩))
      go_ret
      obtain ⟨F2, q1, q2⟩ := dj.ex
      exact ⟨rfl, Hp.then hn1 hb1 (hx1.desk q1 q2 dj.bt)⟩)
theorem sesAdd {D : DataW Value} {S : Ses} (hD : IsMap D) (h : SesR D S) {k : ByteArray} (hk : sId S k = none) (i : Int) : SesR (D.put (kS k) (.held (.int .i64 i))) (S ++ [(k, i)]) := fun j => by
  rw [sId_add hk]
  by_cases e : j = k
  · rw [if_pos e, e, look_put hD (kS_key k)]; rfl
  · rw [if_neg e, look_put_other (kS_ne e)]; exact h j
theorem HlX.tight (h : HlX T w G H d S F B M n D) : w.ownsMap Tryz.prog 9 anyE M S.length D := by
  have e : Maps.size D = (S.map Prod.fst).length := size_strs h.mp h.nd (fun x => by rw [h.sr x, Option.isSome_map]; exact sId_some.symm)
  have := own_tight h.mp
  rw [e, List.length_map] at this
  exact this
set_option maxRecDepth 100000 in
set_option maxHeartbeats 2000000 in
theorem hallOpen (V : DFace T) (h : Hl T w G H d S) (ok : OkD d) (sm : Sm d) (k : ByteArray) (hk : k.size ≤ maxLen) (hS : S.length ≤ 1000) :
    Calls Tryz.prog 26 #[.pointer (some ⟨H, 0, none⟩), .string k] w fun e w' => e = .returned (ev (hoF d S k)) ∧ Hp T G H w w' (hoD d S k) (hoS d S k) := by
  obtain ⟨F, B, M, n, D, hx⟩ := h
  have KN := plName k w
  unfold hoS hoD hoF
  unfold Bur.nmF at KN
  by_cases e : Bur.isN k.data.toList = true
  · rw [if_pos e, ev_0] at KN
    rw [if_pos e]
    have L1 : ∀ {w1 : World}, Below w.heap.size w w1 → _ := fun {w1} hb => run_lookS 178 3 true Tryz.underlying178 (zeroI w1) (hx.step V hb).mp k hk
    rw [hx.sr k] at L1
    cases q : sId S k with
    | some i =>
      rw [q] at L1
      simp only [if_true, Option.map_some, Option.getD_some, Option.isSome_some] at L1
      rw [if_pos (by simp), if_neg (by simp), if_neg (by decide), show ev 6 = errN 6 from rfl]
      go_enter Tryz.func26, Tryz.ntmps26
      go_wp2_with (go_at_call 89; refine KN.mono ?_; clear KN; rintro e w1 ⟨rfl, hb1⟩; have c1 := (hx.step V hb1).hh.c1; have l1 := L1 hb1)
      go_ret
      exact ⟨rfl, Hp.step V (Hp.refl ⟨F, B, M, n, D, hx⟩) hb1⟩
    | none =>
      rw [q] at L1
      simp only [if_true, Option.map_none, Option.getD_none, Option.isSome_none] at L1
      rw [if_neg (by simp), if_pos ⟨e, rfl⟩]
      have K2 : ∀ {w1 : World} {F1 : Nat → Prop} {B1 : Nat}, Ds T w1 F1 B1 d → Calls Tryz.prog 12 #[.pointer (some ⟨B1, 0, none⟩)] w1 fun e w' => e = .returned (.tuple #[.int .i64 (bgN d), ev (bgF d)]) ∧ Dj T F1 w1 w' B1 (bgD d) := fun hd =>
        (V.begin_ hd.t ok sm hd.lt).mono (fun e w' q => ⟨q.1, Dj.of hd q.2.1 (fun j hj => hj) q.2.2⟩)
      have hkey : keyOf Tryz.prog 9 (.string k) = some (kS k) := by simp [keyOf, mapKey, Tryz.underlying9, hk]
      by_cases g : bgF d = 0
      · rw [g, ev_0] at K2
        rw [if_pos g, g, ev_0]
        generalize bgN d = id1 at K2 ⊢
        generalize bgD d = d1 at K2 ⊢
        clear ok sm
        go_enter Tryz.func26, Tryz.ntmps26
        go_wp2_with (first
          | (go_at_call 89; refine KN.mono ?_; clear KN; rintro e w1 ⟨rfl, hb1⟩; have hx1 := hx.step V hb1; have c1 := hx1.hh.c1; have c0 := hx1.hh.c0; have l1 := L1 hb1; have KB := K2 hx1.ds)
          | (go_at_call 12; refine KB.mono ?_; clear KB; rintro e w2 ⟨rfl, dj⟩; obtain ⟨F2, q1, q2⟩ := dj.ex; obtain ⟨G2, ⟨F3, B3, M3, n3, D3, hx2⟩, hn2, hb2⟩ := hx1.desk q1 q2 dj.bt; have m1 := hx2.hh.c1; have ho2 := hx2.tight; obtain ⟨w5, hput, own5, hg5⟩ := ho2.update keyed Tryz.underlying178 (by unfold maxLen; omega) hkey (val := .int .i64 id1) (d := .held (.int .i64 id1)) (ps := []) rfl))
        go_ret
        exact ⟨rfl, Hp.ahead hb1 (Hp.then hn2 hb2 (hx2.ses V (grown_butM hg5) own5 (sesAdd ho2.isMap hx2.sr q _) (sAdd_nd hx2.nd q)))⟩
      · rw [ev_ne g] at K2
        rw [if_neg g, ev_ne g]
        generalize bgN d = id1 at K2 ⊢
        generalize bgD d = d1 at K2 ⊢
        generalize bgF d = f at K2 ⊢
        clear ok sm
        go_enter Tryz.func26, Tryz.ntmps26
        go_wp2_with (first
          | (go_at_call 89; refine KN.mono ?_; clear KN; rintro e w1 ⟨rfl, hb1⟩; have hx1 := hx.step V hb1; have c1 := hx1.hh.c1; have c0 := hx1.hh.c0; have l1 := L1 hb1; have KB := K2 hx1.ds)
          | (go_at_call 12; refine KB.mono ?_; clear KB; rintro e w2 ⟨rfl, dj⟩; obtain ⟨F2, q1, q2⟩ := dj.ex))
        go_ret
        exact ⟨rfl, Hp.ahead hb1 (hx1.desk q1 q2 dj.bt)⟩
  · rw [if_neg e, show ev 5 = errN 5 from rfl] at KN
    rw [if_neg e, if_neg (fun q => e q.1), if_neg (by decide), show ev 5 = errN 5 from rfl]
    go_enter Tryz.func26, Tryz.ntmps26
    go_wp2_with (go_at_call 89; refine KN.mono ?_; clear KN; rintro e w1 ⟨rfl, hb1⟩)
    go_ret
    exact ⟨rfl, Hp.step V (Hp.refl ⟨F, B, M, n, D, hx⟩) hb1⟩
theorem hallAll (V : DFace T) (h : Hl T w G H d S) (ok : OkD d) (sm : Sm d) :
    Calls Tryz.prog 40 #[.pointer (some ⟨H, 0, none⟩)] w fun e w' => ∃ (q : Option Addr) (cq : Nat), e = .returned (.slice q (allP d).length cq) ∧ (allP d).length ≤ cq ∧ PrIn (fun j => w.heap.size ≤ j) w' q (allP d) ∧ Below w.heap.size w w' := by
  obtain ⟨F, B, M, n, D, hx⟩ := h
  have c0 := hx.hh.c0
  have K := V.all hx.ds.t ok sm
  go_enter Tryz.func40, Tryz.ntmps40
  go_wp2_with (go_at_call 22; refine K.mono ?_; clear K; rintro e w1 ⟨q, cq, rfl, h1, h2, h3⟩)
  go_ret
  exact ⟨q, cq, rfl, h1, h2, h3⟩
end
end Go.Proofs.YthaggkmammfpbaaGreatDoor.Pa

namespace Go.Proofs.YthaggkmammfpbaaGreatDoor.Pa
open Go.RowKit Go.Maps Vs

def haF (d : Dk) (S : Ses) (k : ByteArray) (c : Cl) : Int := match sId S k with
  | none => 4
  | some i => runF (doP c) d i
def haA (d : Dk) (S : Ses) (k : ByteArray) (c : Cl) : An := match sId S k with
  | none => an0
  | some i => runA (doP c) d i
def haD (d : Dk) (S : Ses) (k : ByteArray) (c : Cl) : Dk := match sId S k with
  | none => d
  | some i => runD (doP c) d i
section
variable {T : Td} {w w' : World} {G F : Nat → Prop} {H B M n : Nat} {D : DataW Value} {d : Dk} {S : Ses}
set_option maxRecDepth 100000 in
set_option maxHeartbeats 8000000 in
theorem hallAsk (V : DFace T) (h : Hl T w G H d S) (ok : OkD d) (sm : Sm d) (k : ByteArray) (hk : k.size ≤ maxLen) (c : Cl) :
    Calls Tryz.prog 39 #[.pointer (some ⟨H, 0, none⟩), .string k, clV c] w fun e w' => ∃ u, e = .returned (.tuple #[anV (haA d S k c) u, ev (haF d S k c)]) ∧ w'.ownsRow w.heap.size 31 2 u (haA d S k c).l.length (pfV (haA d S k c).l) ∧ ∃ G', Hl T w' G' H (haD d S k c) S ∧ (∀ j, G' j → Nw G w w' j) ∧ But G w w' ∧ ∀ j, u.ownBlock = some j → ¬ G' j := by
  obtain ⟨F, B, M, n, D, hx⟩ := h
  obtain ⟨W, hW⟩ : ∃ W, W = (w.alloc (.cells (clA c) 33)).alloc (.cells #[.int .i64 0, .int .i64 0, .int .i64 0, .string ⟨#[]⟩, .slice none 0 0] 48) := ⟨_, rfl⟩
  have bW : Below w.heap.size w W := by rw [hW]; exact below_al (below_al (below_self w) _) _
  obtain ⟨bb, hbb⟩ : ∃ bb, bb = w.heap.size := ⟨_, rfl⟩
  have cb : Cb W bb c := by rw [hW, hbb]; exact (Cb.new w c _).step (below_al (below_self _) _)
  have ab : Ab W (bb + 1) (.int .i64 0) (.int .i64 0) (.int .i64 0) (.string ⟨#[]⟩) (.slice none 0 0) := by
    have := Ab.new (w.alloc (.cells (clA c) 33)) (.int .i64 0) (.int .i64 0) (.int .i64 0) (.string ⟨#[]⟩) (.slice none 0 0) 48
    rw [World.size_alloc] at this
    rw [hW, hbb]; exact this
  have hxW := hx.step V bW
  have KF := hlFind hxW k hk
  have lW : bb + 1 < W.heap.size := ab.lt
  have hlb : ∀ j, F j → j < w.heap.size := hx.ds.lt
  have nb0 : ¬ F bb := fun q => by have := hlb _ q; omega
  have nb1 : ¬ F (bb + 1) := fun q => by have := hlb _ q; omega
  have lH := hx.hh.lt
  have lM := hx.ltM
  unfold haA haF haD
  unfold sN sF at KF
  have FIN : ∀ {d2 : Dk} {F2 : Nat → Prop} {wx w3 wf : World} {u : Value} {m : Nat} {xs : List Value}, Below W.heap.size W wx → Ds T w3 F2 B d2 → (∀ j, F2 j → Nw F wx w3 j) → But F wx w3 → w3.ownsRow wx.heap.size 31 2 u m xs → (∀ j, u.ownBlock = some j → ¬ F2 j) → But (fun j => j = bb + 1) w3 wf → wf.ownsRow w.heap.size 31 2 u m xs ∧ ∃ G', Hl T wf G' H d2 S ∧ (∀ j, G' j → Nw G w wf j) ∧ But G w wf ∧ ∀ j, u.ownBlock = some j → ¬ G' j := by
    intro d2 F2 wx w3 wf u m xs bx h3 hn3 b3 row sep hb
    have sx := bx.size
    have sw := bW.size
    obtain ⟨q1, q2, q3⟩ := do_fin (F := F) (F1 := F) (w := w) (wx := wx) (ab := bb + 1) V hx.ds.en (.below (below_via bW bx)) (fun _ hj => .inl hj) h3 hn3 b3 (by omega) (by omega) nb1 hb
    have row' : wf.ownsRow w.heap.size 31 2 u m xs := ownMono (by omega) (row_but row hb (fun j hj q => by omega))
    obtain ⟨G', g1, g2, g3⟩ := hx.desk q1 q2 q3
    refine ⟨row', fun j => F2 j ∨ j = H ∨ j = M, ?_, ?_, g3, fun j hj q => ?_⟩
    · have nw : ∀ {j}, F2 j → j < w.heap.size → F j := fun hj hl => (q2 _ hj).elim id (fun q => by have := q.1; omega)
      refine ⟨F2, B, M, n, D, q1, hx.hh.but q3 hx.nH, map_but hx.mp q3 hx.nM, hx.sr, fun q => hx.nH (nw q lH), fun q => hx.nM (nw q lM), hx.ne, fun j => Iff.rfl, hx.nd, fun j hj => ?_⟩
      rcases hj with q | q | q
      · exact q1.no j q
      · exact hx.no j ((hx.gs j).2 (.inr (.inl q)))
      · exact hx.no j ((hx.gs j).2 (.inr (.inr q)))
    · intro j hj
      rcases hj with q | q | q
      · exact (q2 j q).imp (fun g => (hx.gs j).2 (.inl g)) id
      · exact .inl ((hx.gs j).2 (.inr (.inl q)))
      · exact .inl ((hx.gs j).2 (.inr (.inr q)))
    · have hge : wx.heap.size ≤ j := (row.lt j hj).1
      rcases q with q | q | q
      · exact sep j hj q
      · omega
      · omega
  have FH : Hid _ := @FIN
  clear FIN
  cases e : sId S k with
  | none =>
    rw [e] at KF
    simp only [Option.getD_none, Option.isSome_none] at KF
    rw [if_neg (by simp), show ev 4 = errN 4 from rfl] at KF
    simp only
    rw [show ev 4 = errN 4 from rfl]
    obtain ⟨a0, a1, a2, a3, a4, af0, af1, af2, af3, af4⟩ := id ab
    have R0 := FH.out (u := .slice none 0 0) (m := 0) (xs := []) (below_self W) hxW.ds (fun j hj => .inl hj) (But.refl _ _) (World.ownsRow_nil _ _ _ _) (fun j hj => by cases hj) (but_5 (bb + 1) (But.refl (fun j => j = bb + 1) W) (.int .i64 0) (.int .i64 0) (.int .i64 0) (.string ⟨#[]⟩) (.slice none 0 0))
    have RH : Hid _ := R0
    clear R0
    subst hbb
    go_enter Tryz.func39, Tryz.ntmps39
    go_wp2_with (go_at_call 98; rw [← hW]; refine KF.mono ?_; clear KF hW; rintro e w1 ⟨rfl, hw⟩; have := hw.symm; subst this)
    exact bodyPost_ret (v := .tuple #[anV an0 (.slice none 0 0), errN 4]) (by simp [results, Tryz.results39, go_sem, an0, (ab.all (.int .i64 0) (.int .i64 0) (.int .i64 0) (.string ⟨#[]⟩) (.slice none 0 0)).c0, (ab.all (.int .i64 0) (.int .i64 0) (.int .i64 0) (.string ⟨#[]⟩) (.slice none 0 0)).c1, (ab.all (.int .i64 0) (.int .i64 0) (.int .i64 0) (.string ⟨#[]⟩) (.slice none 0 0)).c2, (ab.all (.int .i64 0) (.int .i64 0) (.int .i64 0) (.string ⟨#[]⟩) (.slice none 0 0)).c3, (ab.all (.int .i64 0) (.int .i64 0) (.int .i64 0) (.string ⟨#[]⟩) (.slice none 0 0)).c4]; rfl) rfl ⟨_, rfl, RH.out⟩
  | some i =>
    rw [e] at KF
    simp only [Option.getD_some, Option.isSome_some] at KF
    rw [if_pos (by simp), ev_0] at KF
    simp only
    have KD := fun (wx : World) (bx : Below W.heap.size W wx) => plDo V c i (hxW.ds.step V bx) ok sm
    unfold DoPost at KD
    generalize ev (runF (doP c) d i) = vf at KD ⊢
    generalize runA (doP c) d i = a at KD ⊢
    generalize runD (doP c) d i = d2 at KD ⊢
    have hh1 := hxW.hh
    have sx : ∀ {wy : World}, Hh wy H B M → Cb wy bb c → wy.cell? ⟨H, 0, none⟩ = some (.pointer (some ⟨B, 0, none⟩)) ∧ wy.cell? ⟨bb, 0, none⟩ = some (.int .i64 c.what) ∧ wy.cell? ⟨bb, 1, none⟩ = some (.string c.nm) ∧ wy.cell? ⟨bb, 2, none⟩ = some (.int .i64 c.p.1) ∧ wy.cell? ⟨bb, 3, none⟩ = some (.int .i64 c.p.2) ∧ wy.cell? ⟨bb, 4, none⟩ = some (.int .i64 c.len) ∧ wy.cell? ⟨bb, 5, none⟩ = some (.int .i64 c.ad) ∧ wy.cell? ⟨bb, 6, none⟩ = some (.string c.ow) := fun a b => ⟨a.c0, b.q0, b.q1, b.q2, b.q3, b.q4, b.q5, b.q6⟩
    have LT : Hid (∀ j, F j → j < w.heap.size) := hlb
    have HBB : Hid (bb = w.heap.size) := hbb
    have nz1 : ¬ H = bb + 1 := fun q => by omega
    have nz0 : ¬ bb = bb + 1 := fun q => by omega
    go_enter Tryz.func39, Tryz.ntmps39
    go_upto_region 4 with (go_at_call 98; rw [← hW]; refine KF.mono ?_; clear KF hW; rintro e w1 ⟨rfl, hw⟩; have := hw.symm; subst this)
    rw [← hbb]
    clear hbb lH lM lW hlb
    go_cut [7] from 20 to 28 (fun s7 wy => s7 = vf ∧ ∃ pu cu, Ab wy (bb + 1) (.int .i64 a.p.1) (.int .i64 a.p.2) (.int .i64 a.ad) (.string a.ow) (.slice pu a.l.length cu) ∧ wy.ownsRow w.heap.size 31 2 (.slice pu a.l.length cu) a.l.length (pfV a.l) ∧ ∃ G', Hl T wy G' H d2 S ∧ (∀ j, G' j → Nw G w wy j) ∧ But G w wy ∧ ∀ j, (Value.slice pu a.l.length cu).ownBlock = some j → ¬ G' j)
    case first =>
      go_region_held3 (fun wy => wy.cell? ⟨H, 0, none⟩ = some (.pointer (some ⟨B, 0, none⟩)) ∧ wy.cell? ⟨bb, 0, none⟩ = some (.int .i64 c.what) ∧ wy.cell? ⟨bb, 1, none⟩ = some (.string c.nm) ∧ wy.cell? ⟨bb, 2, none⟩ = some (.int .i64 c.p.1) ∧ wy.cell? ⟨bb, 3, none⟩ = some (.int .i64 c.p.2) ∧ wy.cell? ⟨bb, 4, none⟩ = some (.int .i64 c.len) ∧ wy.cell? ⟨bb, 5, none⟩ = some (.int .i64 c.ad) ∧ wy.cell? ⟨bb, 6, none⟩ = some (.string c.ow))
        (with_reducible first | exact sx (hh1.step (below_self W).drew) (cb.step (below_self W).drew) | exact sx hh1 cb | exact sx hh3 cb3 | exact sx (hh3.but (but_5 (bb + 1) (But.refl (fun j => j = bb + 1) w3) _ _ _ _ _) nz1) (cb3.but (but_5 (bb + 1) (But.refl (fun j => j = bb + 1) w3) _ _ _ _ _) nz0))
        (first
          | (go_at_call 19; with_reducible refine (KD _ (below_self W).drew).mono ?_; rintro e w3 ⟨u, rfl, F2, h3, hn3, b3, row3, sep3⟩; obtain ⟨pu, cu, rfl⟩ := own_form row3; have hh3 : Hh w3 H B M := (hh1.step (below_self W).drew).but b3 hx.nH; have cb3 : Cb w3 bb c := (cb.step (below_self W).drew).but b3 nb0; have ab3 := (ab.step (below_self W).drew).but b3 nb1; obtain ⟨x0, x1, x2, x3, x4, y0, y1, y2, y3, y4⟩ := id ab3))
      all_goals (
        go_wp2_with fail
        go_meet)
      all_goals (exact ⟨rfl, pu, cu, ab3.all _ _ _ _ _, FH.out (below_self _).drew h3 hn3 b3 row3 sep3 (but_5 _ (But.refl _ _) _ _ _ _ _)⟩)
    case rest =>
      obtain ⟨hs7, pu, cu, abz, R⟩ := hcut
      rw [hs7]
      clear hs7
      have RH : Hid _ := R
      obtain ⟨x0, x1, x2, x3, x4, y0, y1, y2, y3, y4⟩ := id abz
      go_wp2_with fail
      exact bodyPost_ret (v := .tuple #[anV a (.slice pu a.l.length cu), vf]) (by simp [results, Tryz.results39, go_sem, x0, x1, x2, x3, x4]) rfl ⟨_, rfl, RH.out⟩
end
end Go.Proofs.YthaggkmammfpbaaGreatDoor.Pa

namespace Go.Proofs.YthaggkmammfpbaaGreatDoor.Pa
open Go.RowKit Vs

structure Kd (d d' : Dk) : Prop where
  lg : d'.lg = d.lg
  vs : d'.vs = d.vs
  top : d'.top = d.top
  last : d'.last = d.last
  ids : d'.ids = d.ids
  op : d'.op.map (fun o => (o.id, o.sees)) = d.op.map (fun o => (o.id, o.sees))
theorem Kd.refl (d : Dk) : Kd d d := ⟨rfl, rfl, rfl, rfl, rfl, rfl⟩
theorem Kd.trans {a b c : Dk} (h : Kd a b) (k : Kd b c) : Kd a c := ⟨k.lg.trans h.lg, k.vs.trans h.vs, k.top.trans h.top, k.last.trans h.last, k.ids.trans h.ids, k.op.trans h.op⟩
theorem Kd.set {d : Dk} (hu : OkD d) {i : Int} {o o' : Ox} (h : opI d i = some o) (e1 : o'.id = o.id) (e2 : o'.sees = o.sees) : Kd d (opSet d o') := by
  refine ⟨rfl, rfl, rfl, rfl, rfl, ?_⟩
  show (d.op.map _).map _ = _
  rw [List.map_map]
  refine List.map_congr_left (fun x hx => ?_)
  show (fun o => (o.id, o.sees)) (if x.id = o'.id then o' else x) = _
  by_cases e : x.id = o'.id
  · rw [if_pos e]
    have : x = o := ids_once hu.ids hx (opI_some h).1 (e.trans e1)
    rw [this]
    show (o'.id, o'.sees) = _
    rw [e1, e2]
  · rw [if_neg e]
theorem kd_dg {d : Dk} (h : OkD d) (i : Int) (k : ByteArray) : Kd d (dgD d i k) := by
  unfold dgD
  cases e : opI d i with
  | none => exact .refl d
  | some o =>
    simp only
    split
    · split
      · exact .refl d
      · exact .set h e rfl rfl
    · exact .refl d
theorem kd_dr {d : Dk} (h : OkD d) (i : Int) (lo hi : ByteArray) : Kd d (drD d i lo hi) := by
  unfold drD
  cases e : opI d i with
  | none => exact .refl d
  | some o =>
    simp only
    split
    · exact .refl d
    · exact .set h e rfl rfl
theorem kd_dc {d : Dk} (h : OkD d) (i : Int) (c : Chg) : Kd d (dcD d i c) := by
  unfold dcD
  cases e : opI d i with
  | none => exact .refl d
  | some o =>
    simp only
    split
    · split
      · exact .refl d
      · exact .set h e rfl rfl
    · exact .refl d
theorem run_kd : ∀ (g : Pg) (d : Dk) (i : Int), Gd g → OkD d → Kd d (runD g d i)
  | .ret _ _, d, _, _, _ => .refl d
  | .get k K, d, i, h, ok => (kd_dg ok i k).trans (run_kd (K (dgS d i k) (dgF d i k)) (dgD d i k) i (h _ _) (ok.dg i k))
  | .rng lo hi K, d, i, h, ok => (kd_dr ok i lo hi).trans (run_kd (K (drS d i lo hi) (drF d i)) (drD d i lo hi) i (h.2 _ _) (ok.dr i lo hi))
  | .chg c K, d, i, h, ok => by
    have e : runD (.chg c K) d i = dcD d i c := nc_run (h.2 _) _ _
    rw [e]
    exact kd_dc ok i c
def Rz : Pg → Prop
  | .ret a f => f ≠ 0 → a = an0
  | .get _ K => ∀ v f, Rz (K v f)
  | .rng _ _ K => ∀ l f, Rz (K l f)
  | .chg _ K => ∀ f, Rz (K f)
theorem run_rz : ∀ (g : Pg) (d : Dk) (i : Int), Rz g → runF g d i ≠ 0 → runA g d i = an0
  | .ret _ _, _, _, h, e => h e
  | .get k K, d, i, h, e => run_rz (K (dgS d i k) (dgF d i k)) (dgD d i k) i (h _ _) e
  | .rng lo hi K, d, i, h, e => run_rz (K (drS d i lo hi) (drF d i)) (drD d i lo hi) i (h _ _) e
  | .chg c K, d, i, h, e => run_rz (K (dcF d i c)) (dcD d i c) i (h _) e
theorem rz_err (f : Int) : Rz (err f) := fun _ => rfl
theorem rz_asks {k : ByteArray} {K : ByteArray → Bool → Pg} (h : ∀ v b, Rz (K v b)) : Rz (asks k K) := fun v f => by
  show Rz (if f = 4 then K ByteArray.empty false else if f = 0 then K v true else err f)
  by_cases h4 : f = 4
  · rw [if_pos h4]; exact h _ _
  · rw [if_neg h4]
    by_cases h5 : f = 0
    · rw [if_pos h5]; exact h _ _
    · rw [if_neg h5]; exact rz_err _
theorem rz_allL {n : ByteArray} {K : List Lot → Pg} (h : ∀ l, Rz (K l)) : Rz (allL n K) := fun l f => by
  show Rz (if f = 0 then K (lots l) else err f)
  by_cases h5 : f = 0
  · rw [if_pos h5]; exact h _
  · rw [if_neg h5]; exact rz_err _
theorem rz_allA {n : ByteArray} {K : List Int → Pg} (h : ∀ l, Rz (K l)) : Rz (allA n K) := fun l f => by
  show Rz (if f = 0 then K (plcd l) else err f)
  by_cases h5 : f = 0
  · rw [if_pos h5]; exact h _
  · rw [if_neg h5]; exact rz_err _
theorem rz_puts {k v : ByteArray} {a : An} : Rz (puts k v a) := fun f => by
  show Rz (if f = 0 then .ret a 0 else err f)
  split
  · exact fun h => absurd rfl h
  · exact rz_err _
theorem rz_drops {k : ByteArray} : Rz (drops k) := fun _ => rz_err _
theorem rz_allW {c : Cl} {K : List Lot → Pg} (h : ∀ l, Rz (K l)) : Rz (allW c K) := rz_allL (fun l => by
  by_cases h5 : c.p ∈ l.map Prod.fst
  · rw [if_pos h5]; exact h _
  · rw [if_neg h5]; exact rz_err _)
theorem rz_do (c : Cl) : Rz (doP c) := by
  unfold doP
  by_cases hcl : clF c = 0
  · rw [if_pos hcl, pWork_is]
    refine rz_asks (fun _ b => ?_)
    unfold pBody
    split
    · cases b
      · exact rz_puts
      · exact rz_err _
    · split
      · exact rz_err _
      · split
        · refine rz_asks (fun _ b => ?_)
          cases b
          · exact rz_puts
          · exact rz_err _
        · split
          · refine rz_asks (fun _ b => ?_)
            cases b
            · exact rz_err _
            · rw [if_pos rfl]
              refine rz_allL (fun l => rz_allA (fun u => ?_))
              split
              · exact rz_err _
              · exact rz_drops
          · split
            · refine rz_allL (fun l => rz_asks (fun _ b => ?_))
              split
              · exact rz_err _
              · cases b
                · exact rz_puts
                · exact rz_err _
            · split
              · refine rz_asks (fun _ b => ?_)
                cases b
                · exact rz_err _
                · exact rz_drops
              · split
                · refine rz_allW (fun l => ?_)
                  split
                  · split
                    · exact rz_err _
                    · exact rz_puts
                  · exact rz_err _
                · split
                  · refine rz_allW (fun l => rz_allA (fun u => ?_))
                    split
                    · exact rz_puts
                    · exact rz_err _
                  · split
                    · exact rz_allL (fun l h => absurd rfl h)
                    · refine rz_asks (fun v b => ?_)
                      cases b
                      · rw [if_neg (by decide)]
                        refine rz_allL (fun l => ?_)
                        cases (hav l c.ad).getLast? with
                        | none => exact rz_err _
                        | some o => exact fun h => absurd rfl h
                      · exact fun h => absurd rfl h
  · rw [if_neg hcl]; exact rz_err _
theorem cm_ls (d : Dk) (i : Int) : (cmD d i).lg.ls.length ≤ d.lg.ls.length + 1 ∧ (cmD d i).op = (opDel d i).op := by
  unfold cmD
  cases e : opI d i with
  | none =>
    refine ⟨Nat.le_succ _, ?_⟩
    show d.op = d.op.filter _
    rw [List.filter_eq_self.2]
    intro o ho
    simpa using opI_none.1 e o ho
  | some o =>
    simp only
    split
    · exact ⟨Nat.le_succ _, rfl⟩
    · split
      · exact ⟨Nat.le_succ _, rfl⟩
      · split
        · refine ⟨?_, rfl⟩
          show (apG d.lg o.own).ls.length ≤ _
          rw [ls_ap]; split <;> simp
        · refine ⟨?_, rfl⟩
          show (apG d.lg o.own).ls.length ≤ _
          rw [ls_ap]; split <;> simp
theorem cm_up {d : Dk} (h : UpL d.lg) (i : Int) : UpL (cmD d i).lg := by
  unfold cmD
  cases e : opI d i with
  | none => exact h
  | some o =>
    simp only
    split
    · exact h
    · split
      · exact h
      · split
        · exact h.ap _
        · exact h.ap _
structure Oc (k : Nat) (d : Dk) : Prop where
  dp : Dp k d
  op0 : d.op = []
  up : UpL d.lg
  ls : 2 * d.lg.ls.length ≤ k
theorem Oc.new : Oc 0 (dk0 100000) := ⟨.new (by decide) (by decide), rfl, UpL.new, Nat.le_refl _⟩
theorem Oc.bg {k : Nat} {d : Dk} (h : Oc k d) : bgF d = 0 := bg_ok (by rw [h.op0]; decide) h.up
theorem dp_run {k : Nat} {d : Dk} (h : Dp k d) (c : Cl) (i : Int) : Dp (k + 1) (runD (doP c) d i) := by
  obtain ⟨a1, a2, a3, a4⟩ := run_good (doP c) d i (gd_do c) h.ok h.spz
  exact ⟨a1, by have := h.wl; omega, by have := h.ids; omega, a4⟩
theorem Oc.on {k : Nat} {d : Dk} (h : Oc k d) (c : Cl) : ∃ o, (onX d c).op = [o] ∧ o.id = bgN d ∧ o.sees = (onX d c).last ∧ opI (onX d c) (bgN d) = some o ∧ UpL (onX d c).lg ∧ (onX d c).lg.ls = d.lg.ls := by
  have kd := run_kd (doP c) (bgD d) (bgN d) (gd_do c) h.dp.ok.bg
  have e0 := bgD_ok (d := d) (by rw [h.op0]; decide) h.up
  have e1 := bgN_ok (d := d) (by rw [h.op0]; decide) h.up
  have hop := kd.op
  rw [show runD (doP c) (bgD d) (bgN d) = onX d c from rfl] at hop kd
  rw [e0, h.op0, List.nil_append, List.map_cons, List.map_nil] at hop
  obtain ⟨o, ho, hop2⟩ : ∃ o, (onX d c).op = [o] ∧ (o.id, o.sees) = ((ox0 (d.ids + 1) d.last).id, (ox0 (d.ids + 1) d.last).sees) := by
    cases e : (onX d c).op with
    | nil => rw [e] at hop; simp at hop
    | cons o r =>
      rw [e] at hop
      cases r with
      | nil => exact ⟨o, rfl, by simpa using hop⟩
      | cons x y => simp at hop
  have i1 : o.id = bgN d := by rw [e1]; exact congrArg Prod.fst hop2
  have kl := kd.last
  have klg := kd.lg
  rw [e0] at kl klg
  refine ⟨o, ho, i1, by rw [kl]; exact congrArg Prod.snd hop2, ?_, by rw [klg]; exact h.up, by rw [klg]⟩
  unfold opI
  rw [ho]
  simp [i1]
theorem Oc.cm {k : Nat} {d : Dk} (h : Oc k d) (hk : k ≤ 180) (c : Cl) : cmF (onX d c) (bgN d) = 0 := by
  obtain ⟨o, o1, o2, o3, o4, o5, o6⟩ := h.on c
  have ok : OkD (onX d c) := (on_good c h.dp.ok h.dp.spz).1
  unfold cmF
  rw [o4]
  simp only
  rw [if_neg (by rw [clash_last ok o3]; decide)]
  split
  · rfl
  · exact o5.room ok.lg (by rw [o6]; have := h.ls; omega) (ok.op o (by rw [o1]; simp)).own
theorem Oc.onF {k : Nat} {d : Dk} (h : Oc k d) (hk : k ≤ 180) (c : Cl) : onF d c = onG d c := by
  unfold Pa.onF
  rw [if_pos h.bg, h.cm hk c]
  split
  · rename_i e; exact e.symm
  · rfl
theorem Oc.next {k : Nat} {d : Dk} (h : Oc k d) (c : Cl) : Oc (k + 3) (onD d c) := by
  obtain ⟨o, o1, o2, o3, o4, o5, o6⟩ := h.on c
  have dp : Dp (k + 2) (onX d c) := dp_run h.dp.bg c (bgN d)
  have del : (opDel (onX d c) (bgN d)).op = [] := by
    show (onX d c).op.filter _ = []
    rw [o1]
    simp [o2]
  unfold onD
  rw [if_pos h.bg]
  split
  · refine ⟨dp.cm _, by rw [(cm_ls _ _).2]; exact del, cm_up o5 _, ?_⟩
    have := (cm_ls (onX d c) (bgN d)).1
    rw [o6] at this
    have := h.ls
    omega
  · refine ⟨dp.del _, del, o5, ?_⟩
    show 2 * (onX d c).lg.ls.length ≤ _
    rw [o6]
    have := h.ls
    omega
theorem Oc.an {k : Nat} {d : Dk} (h : Oc k d) (hk : k ≤ 180) (c : Cl) : onA d c = runA (doP c) (bgD d) (bgN d) ∧ onN d c = (if onG d c = 0 then cmN (onX d c) (bgN d) else 0) := by
  unfold onA onN
  rw [h.onF hk c]
  refine ⟨?_, rfl⟩
  by_cases e : onG d c = 0
  · rw [if_pos e]
  · rw [if_neg e]; exact (run_rz (doP c) (bgD d) (bgN d) (rz_do c) e).symm
end Go.Proofs.YthaggkmammfpbaaGreatDoor.Pa

namespace Go.Proofs.YthaggkmammfpbaaGreatDoor.Pa
open Go.RowKit Go.Maps Vs

structure H1 (T : Td) (w0 : World) (K : Nat → Prop) (w : World) (H : Nat) (d : Dk) (S : Ses) : Prop where
  ex : ∃ G, Hl T w G H d S ∧ ∀ j, K j → ¬ G j
  kl : ∀ j, K j → j < w.heap.size
  old : ∀ j, j < w0.heap.size → K j
  bl : Below w0.heap.size w0 w
section
variable {T : Td} {w0 w w' : World} {K : Nat → Prop} {H : Nat} {d : Dk} {S : Ses}
theorem H1.op {G : Nat → Prop} {d' : Dk} {S' : Ses} (h : H1 T w0 K w H d S) (hK : ∀ j, K j → ¬ G j) (hp : Hp T G H w w' d' S') : H1 T w0 K w' H d' S' ∧ But (fun j => ¬ K j) w w' := by
  obtain ⟨G', h1, n1, b1⟩ := hp
  have s := b1.size
  refine ⟨⟨⟨G', h1, fun j hj q => ?_⟩, fun j hj => Nat.lt_of_lt_of_le (h.kl j hj) s, h.old, But.under2 h.bl b1 h.bl.size (fun i hi q => hK i (h.old i hi) q)⟩, b1.mono (fun j _ hj q => hK j q hj)⟩
  rcases n1 j q with g | g
  · exact hK j hj g
  · have := h.kl j hj
    have := g.1
    omega
theorem H1.step (V : DFace T) (h : H1 T w0 K w H d S) (hb : Below w.heap.size w w') : H1 T w0 (fun j => K j ∨ (w.heap.size ≤ j ∧ j < w'.heap.size)) w' H d S := by
  obtain ⟨G, h1, h2⟩ := h.ex
  have s := hb.size
  refine ⟨⟨G, h1.step V hb, fun j hj q => ?_⟩, fun j hj => ?_, fun j hj => .inl (h.old j hj), below_via h.bl hb⟩
  · rcases hj with g | g
    · exact h2 j g q
    · have := h1.lt q
      have := g.1
      omega
  · rcases hj with g | g
    · exact Nat.lt_of_lt_of_le (h.kl j g) s
    · exact g.2
theorem H1.mono {K' : Nat → Prop} (h : H1 T w0 K w H d S) (hk : ∀ j, K' j → K j) (ho : ∀ j, j < w0.heap.size → K' j) : H1 T w0 K' w H d S := by
  obtain ⟨G, h1, h2⟩ := h.ex
  exact ⟨⟨G, h1, fun j hj => h2 j (hk j hj)⟩, fun j hj => h.kl j (hk j hj), ho, h.bl⟩
theorem H1.same (V : DFace T) (h : H1 T w0 K w H d S) (hb : Below w.heap.size w w') : H1 T w0 K w' H d S := (h.step V hb).mono (fun _ hj => .inl hj) h.old
theorem H1.en (h : H1 T w0 K w H d S) : En w := by
  obtain ⟨G, h1, h2⟩ := h.ex
  exact h1.en
theorem H1.new (V : DFace T) (room : Int) (w0 w : World) (K : Nat → Prop) (en : En w) (h0 : 0 ≤ room) (h1 : room ≤ 100000) (kl : ∀ j, K j → j < w.heap.size) (old : ∀ j, j < w0.heap.size → K j) (bl : Below w0.heap.size w0 w) :
    Calls Tryz.prog 24 #[.int .i64 room] w fun e w' => ∃ H, e = .returned (.tuple #[.pointer (some ⟨H, 0, none⟩), .nilIface]) ∧ H1 T w0 K w' H (dk0 room) [] ∧ Below w.heap.size w w' := by
  refine (hallNew V room en h0 h1).mono ?_
  rintro e w' ⟨H, G, rfl, hl, lo, hb⟩
  exact ⟨H, rfl, ⟨⟨G, hl, fun j hj q => by have := kl j hj; have := lo j q; omega⟩, fun j hj => Nat.lt_of_lt_of_le (kl j hj) hb.size, old, below_via bl hb⟩, hb⟩
theorem H1.once (V : DFace T) {k : Nat} (c : Cl) (h : H1 T w0 K w H d S) (dp : Dp k d) (hk : k ≤ 800) :
    Calls Tryz.prog 37 #[.pointer (some ⟨H, 0, none⟩), clV c] w fun e w' => ∃ u, e = .returned (.tuple #[anV (onA d c) u, .int .i64 (onN d c), ev (onF d c)]) ∧ w'.ownsRow w.heap.size 31 2 u (onA d c).l.length (pfV (onA d c).l) ∧ H1 T w0 K w' H (onD d c) S ∧ But (fun j => ¬ K j) w w' := by
  obtain ⟨G, h1, h2⟩ := h.ex
  refine (hallOnce V c h1 dp.ok (Nat.le_trans dp.wl hk) (by have := dp.ids; omega) dp.spz).mono ?_
  rintro e w' ⟨u, rfl, row, hp⟩
  exact ⟨u, rfl, row, h.op h2 hp⟩
theorem H1.open (V : DFace T) {k : Nat} (who : ByteArray) (h : H1 T w0 K w H d S) (dp : Dp k d) (hk : k ≤ 800) (hw : who.size ≤ maxLen) (hS : S.length ≤ 1000) :
    Calls Tryz.prog 26 #[.pointer (some ⟨H, 0, none⟩), .string who] w fun e w' => e = .returned (ev (hoF d S who)) ∧ H1 T w0 K w' H (hoD d S who) (hoS d S who) ∧ But (fun j => ¬ K j) w w' := by
  obtain ⟨G, h1, h2⟩ := h.ex
  refine (hallOpen V h1 dp.ok (dp.sm (by omega)) who hw hS).mono ?_
  rintro e w' ⟨rfl, hp⟩
  exact ⟨rfl, h.op h2 hp⟩
theorem H1.ask (V : DFace T) {k : Nat} (who : ByteArray) (c : Cl) (h : H1 T w0 K w H d S) (dp : Dp k d) (hk : k ≤ 800) (hw : who.size ≤ maxLen) :
    Calls Tryz.prog 39 #[.pointer (some ⟨H, 0, none⟩), .string who, clV c] w fun e w' => ∃ u, e = .returned (.tuple #[anV (haA d S who c) u, ev (haF d S who c)]) ∧ w'.ownsRow w.heap.size 31 2 u (haA d S who c).l.length (pfV (haA d S who c).l) ∧ H1 T w0 (fun j => K j ∨ u.ownBlock = some j) w' H (haD d S who c) S ∧ But (fun j => ¬ K j) w w' := by
  obtain ⟨G, h1, h2⟩ := h.ex
  refine (hallAsk V h1 dp.ok (dp.sm (by omega)) who hw c).mono ?_
  rintro e w' ⟨u, rfl, row, G', g1, g2, g3, g4⟩
  obtain ⟨q1, q2⟩ := h.op h2 ⟨G', g1, g2, g3⟩
  have s := g3.size
  refine ⟨u, rfl, row, ⟨⟨G', g1, fun j hj q => ?_⟩, fun j hj => ?_, fun j hj => .inl (h.old j hj), q1.bl⟩, q2⟩
  · rcases hj with g | g
    · rcases g2 j q with z | z
      · exact h2 j g z
      · have := h.kl j g
        have := z.1
        omega
    · exact g4 j g q
  · rcases hj with g | g
    · exact Nat.lt_of_lt_of_le (h.kl j g) s
    · exact (row.lt j g).2
theorem H1.close (V : DFace T) {k : Nat} (who : ByteArray) (h : H1 T w0 K w H d S) (dp : Dp k d) (hk : k ≤ 800) (hw : who.size ≤ maxLen) :
    Calls Tryz.prog 28 #[.pointer (some ⟨H, 0, none⟩), .string who] w fun e w' => e = .returned (.tuple #[.int .i64 (hcN d S who), ev (hcF d S who)]) ∧ H1 T w0 K w' H (hcD d S who) (sDel S who) ∧ But (fun j => ¬ K j) w w' := by
  obtain ⟨G, h1, h2⟩ := h.ex
  refine (hallClose V h1 dp.ok (dp.sm (by omega)) dp.spz who hw).mono ?_
  rintro e w' ⟨rfl, hp⟩
  exact ⟨rfl, h.op h2 hp⟩
theorem H1.quit (V : DFace T) {k : Nat} (who : ByteArray) (h : H1 T w0 K w H d S) (dp : Dp k d) (hk : k ≤ 800) (hw : who.size ≤ maxLen) :
    Calls Tryz.prog 30 #[.pointer (some ⟨H, 0, none⟩), .string who] w fun e w' => e = .returned (ev (hqF d S who)) ∧ H1 T w0 K w' H (hqD d S who) (sDel S who) ∧ But (fun j => ¬ K j) w w' := by
  obtain ⟨G, h1, h2⟩ := h.ex
  refine (hallQuit V h1 dp.ok (dp.sm (by omega)) who hw).mono ?_
  rintro e w' ⟨rfl, hp⟩
  exact ⟨rfl, h.op h2 hp⟩
theorem H1.all (V : DFace T) {k : Nat} (h : H1 T w0 K w H d S) (dp : Dp k d) (hk : k ≤ 800) :
    Calls Tryz.prog 40 #[.pointer (some ⟨H, 0, none⟩)] w fun e w' => ∃ (q : Option Addr) (cq : Nat), e = .returned (.slice q (allP d).length cq) ∧ (allP d).length ≤ cq ∧ PrIn (fun j => w.heap.size ≤ j) w' q (allP d) ∧ Below w.heap.size w w' := by
  obtain ⟨G, h1, h2⟩ := h.ex
  exact hallAll V h1 dp.ok (dp.sm (by omega))
end
end Go.Proofs.YthaggkmammfpbaaGreatDoor.Pa

namespace Go.Proofs.YthaggkmammfpbaaGreatDoor.Pa
open Go.RowKit Vs

def lgF (vs : List Ver) (o : Ox) (k : ByteArray) : Int := if shF k ByteArray.empty = 0 then (if 100 ≤ o.asked then 3 else if (seeO vs o.sees o.own k).isSome = true then 0 else 4) else 2
def lgS (vs : List Ver) (o : Ox) (k : ByteArray) : ByteArray := if shF k ByteArray.empty = 0 then (if 100 ≤ o.asked then ByteArray.empty else (seeO vs o.sees o.own k).getD ByteArray.empty) else ByteArray.empty
def lgO (o : Ox) (k : ByteArray) : Ox := if shF k ByteArray.empty = 0 then (if 100 ≤ o.asked then o else askK o k) else o
def lrF (o : Ox) : Int := if 100 ≤ o.asked then 3 else 0
def lrS (vs : List Ver) (o : Ox) (lo hi : ByteArray) : List Pr := if 100 ≤ o.asked then [] else rngO vs o.sees o.own lo hi
def lrO (o : Ox) (lo hi : ByteArray) : Ox := if 100 ≤ o.asked then o else askR o lo hi
def lcF (o : Ox) (c : Chg) : Int := if shF c.k c.v = 0 then (if 20 < (insC o.own c).length then 3 else 0) else 2
def lcO (o : Ox) (c : Chg) : Ox := if shF c.k c.v = 0 then (if 20 < (insC o.own c).length then o else { o with own := insC o.own c }) else o
def loR : Pg → List Ver → Ox → An × Int × Ox
  | .ret a f, _, o => (a, f, o)
  | .get k K, vs, o => loR (K (lgS vs o k) (lgF vs o k)) vs (lgO o k)
  | .rng lo hi K, vs, o => loR (K (lrS vs o lo hi) (lrF o)) vs (lrO o lo hi)
  | .chg c K, vs, o => loR (K (lcF o c)) vs (lcO o c)
theorem lgO_id (o : Ox) (k : ByteArray) : (lgO o k).id = o.id ∧ (lgO o k).sees = o.sees ∧ (lgO o k).own = o.own := by
  unfold lgO; split <;> (try split) <;> exact ⟨rfl, rfl, rfl⟩
theorem lrO_id (o : Ox) (lo hi : ByteArray) : (lrO o lo hi).id = o.id ∧ (lrO o lo hi).sees = o.sees ∧ (lrO o lo hi).own = o.own := by
  unfold lrO; split <;> exact ⟨rfl, rfl, rfl⟩
theorem lcO_id (o : Ox) (c : Chg) : (lcO o c).id = o.id ∧ (lcO o c).sees = o.sees := by
  unfold lcO; split <;> (try split) <;> exact ⟨rfl, rfl⟩
theorem lo_id : ∀ (g : Pg) (vs : List Ver) (o : Ox), (loR g vs o).2.2.id = o.id ∧ (loR g vs o).2.2.sees = o.sees
  | .ret _ _, _, _ => ⟨rfl, rfl⟩
  | .get k K, vs, o => by
    have a := lo_id (K (lgS vs o k) (lgF vs o k)) vs (lgO o k)
    have b := lgO_id o k
    exact ⟨a.1.trans b.1, a.2.trans b.2.1⟩
  | .rng lo hi K, vs, o => by
    have a := lo_id (K (lrS vs o lo hi) (lrF o)) vs (lrO o lo hi)
    have b := lrO_id o lo hi
    exact ⟨a.1.trans b.1, a.2.trans b.2.1⟩
  | .chg c K, vs, o => by
    have a := lo_id (K (lcF o c)) vs (lcO o c)
    have b := lcO_id o c
    exact ⟨a.1.trans b.1, a.2.trans b.2⟩
theorem set_set {d : Dk} {o o' : Ox} (e : o.id = o'.id) : opSet (opSet d o) o' = opSet d o' := by
  unfold opSet
  simp only [List.map_map]
  congr 1
  refine List.map_congr_left (fun x _ => ?_)
  show (if (if x.id = o.id then o else x).id = o'.id then o' else if x.id = o.id then o else x) = _
  by_cases h : x.id = o.id
  · rw [if_pos h, if_pos e, if_pos (h.trans e)]
  · rw [if_neg h]
theorem set_ids {d : Dk} (h : d.op.Pairwise (fun a b => a.id < b.id)) (o' : Ox) : (opSet d o').op.Pairwise (fun a b => a.id < b.id) := by
  show (d.op.map _).Pairwise _
  refine List.pairwise_map.2 (h.imp (fun {a b} hab => ?_))
  by_cases ha : a.id = o'.id
  · rw [if_pos ha]
    by_cases hb : b.id = o'.id
    · omega
    · rw [if_neg hb]; omega
  · rw [if_neg ha]
    by_cases hb : b.id = o'.id
    · rw [if_pos hb]; omega
    · rw [if_neg hb]; exact hab
theorem set_o {d : Dk} {i : Int} {o o' : Ox} (h : opI d i = some o) (e : o'.id = o.id) : opI (opSet d o') i = some o' := by
  have q := (opI_some h).2
  rw [opI_set (o := o) (by rw [q]; exact h) e i, if_pos q.symm]
theorem run_lo : ∀ (g : Pg) (d : Dk) (i : Int) (o : Ox), d.op.Pairwise (fun a b => a.id < b.id) → opI d i = some o → runA g d i = (loR g d.vs o).1 ∧ runF g d i = (loR g d.vs o).2.1 ∧ runD g d i = opSet d (loR g d.vs o).2.2
  | .ret a f, d, i, o, hp, h => ⟨rfl, rfl, (opSet_self hp (opI_some h).1).symm⟩
  | .get k K, d, i, o, hp, h => by
    have e1 : dgS d i k = lgS d.vs o k := by unfold dgS; rw [h]; rfl
    have e2 : dgF d i k = lgF d.vs o k := by unfold dgF; rw [h]; rfl
    have e3 : dgD d i k = opSet d (lgO o k) := by
      unfold dgD lgO
      rw [h]
      simp only
      split
      · split
        · exact (opSet_self hp (opI_some h).1).symm
        · rfl
      · exact (opSet_self hp (opI_some h).1).symm
    have q := run_lo (K (lgS d.vs o k) (lgF d.vs o k)) (opSet d (lgO o k)) i (lgO o k) (set_ids hp _) (set_o h (lgO_id o k).1)
    rw [set_set (by rw [(lo_id _ _ _).1])] at q
    show runA (K (dgS d i k) (dgF d i k)) (dgD d i k) i = _ ∧ runF (K (dgS d i k) (dgF d i k)) (dgD d i k) i = _ ∧ runD (K (dgS d i k) (dgF d i k)) (dgD d i k) i = _
    rw [e1, e2, e3]
    exact q
  | .rng lo hi K, d, i, o, hp, h => by
    have e1 : drS d i lo hi = lrS d.vs o lo hi := by unfold drS; rw [h]; rfl
    have e2 : drF d i = lrF o := by unfold drF; rw [h]; rfl
    have e3 : drD d i lo hi = opSet d (lrO o lo hi) := by
      unfold drD lrO
      rw [h]
      simp only
      split
      · exact (opSet_self hp (opI_some h).1).symm
      · rfl
    have q := run_lo (K (lrS d.vs o lo hi) (lrF o)) (opSet d (lrO o lo hi)) i (lrO o lo hi) (set_ids hp _) (set_o h (lrO_id o lo hi).1)
    rw [set_set (by rw [(lo_id _ _ _).1])] at q
    show runA (K (drS d i lo hi) (drF d i)) (drD d i lo hi) i = _ ∧ runF (K (drS d i lo hi) (drF d i)) (drD d i lo hi) i = _ ∧ runD (K (drS d i lo hi) (drF d i)) (drD d i lo hi) i = _
    rw [e1, e2, e3]
    exact q
  | .chg c K, d, i, o, hp, h => by
    have e2 : dcF d i c = lcF o c := by unfold dcF; rw [h]; rfl
    have e3 : dcD d i c = opSet d (lcO o c) := by
      unfold dcD lcO
      rw [h]
      simp only
      split
      · split
        · exact (opSet_self hp (opI_some h).1).symm
        · rfl
      · exact (opSet_self hp (opI_some h).1).symm
    have q := run_lo (K (lcF o c)) (opSet d (lcO o c)) i (lcO o c) (set_ids hp _) (set_o h (lcO_id o c).1)
    rw [set_set (by rw [(lo_id _ _ _).1])] at q
    show runA (K (dcF d i c)) (dcD d i c) i = _ ∧ runF (K (dcF d i c)) (dcD d i c) i = _ ∧ runD (K (dcF d i c)) (dcD d i c) i = _
    rw [e2, e3]
    exact q
end Go.Proofs.YthaggkmammfpbaaGreatDoor.Pa

namespace Go.Proofs.YthaggkmammfpbaaGreatDoor.Pa
open Go.RowKit Vs

theorem shF_of {k v : ByteArray} (h1 : 1 ≤ k.size) (h2 : k.size ≤ 24) (h3 : v.size ≤ 12) : shF k v = 0 := if_neg (by omega)
theorem see_ins {vs : List Ver} {s : Int} {own : List Chg} (hr : risC own) (c : Chg) (k : ByteArray) : seeO vs s (insC own c) k = if k = c.k then (if c.g = true then none else some c.v) else seeO vs s own k := by
  unfold seeO
  rw [ownC_ins hr]
  by_cases e : k = c.k
  · rw [if_pos e, if_pos e]
  · rw [if_neg e, if_neg e]
theorem own_get {vs : List Ver} {top s n : Int} (hT : OkT vs top) (hs : top ≤ s) (hn : s < n) {own : List Chg} (hr : risC own) (k : ByteArray) : vget (vs ++ own.map (verC n)) k n = seeO vs s own k := by
  have hv : vs.filter (hit k n) = vs.filter (hit k s) := by
    refine List.filter_congr (fun x hx => ?_)
    have := (hT.each x hx).2
    unfold hit
    rw [decide_eq_true (show x.n ≤ n by omega), decide_eq_true (show x.n ≤ s by omega)]
  unfold vget see seeO
  rw [List.filter_append, List.getLast?_append, hv]
  cases e : ownC own k with
  | none =>
    have : (own.map (verC n)).filter (hit k n) = [] := by
      refine List.filter_eq_nil_iff.2 (fun x hx => ?_)
      obtain ⟨c, hc, rfl⟩ := List.mem_map.1 hx
      have := ownC_none.1 e c hc
      simp [hit, verC, this]
    rw [this]
    rfl
  | some c =>
    obtain ⟨e1, e2⟩ := ownC_some e
    have hm : verC n c ∈ (own.map (verC n)).filter (hit k n) := List.mem_filter.2 ⟨List.mem_map.2 ⟨c, e1, rfl⟩, by simp [hit, verC, e2]⟩
    have hl : ((own.map (verC n)).filter (hit k n)).getLast? = some (verC n c) := by
      cases q : ((own.map (verC n)).filter (hit k n)).getLast? with
      | none => rw [List.getLast?_eq_none_iff] at q; rw [q] at hm; simp at hm
      | some y =>
        obtain ⟨m1, m2⟩ := List.mem_filter.1 (List.mem_of_getLast? q)
        obtain ⟨c', hc', rfl⟩ := List.mem_map.1 m1
        have ek : c'.k = k := by
          have : (decide (c'.k = k) && decide ((n : Int) ≤ n)) = true := m2
          simpa using this
        rw [ris_once hr hc' e1 (ek.trans e2.symm)]
    rw [hl]
    rfl
theorem lo_asks {k : ByteArray} {K : ByteArray → Bool → Pg} {vs : List Ver} {o : Ox} (hk : shF k ByteArray.empty = 0) (ha : o.asked < 100) :
    loR (asks k K) vs o = match seeO vs o.sees o.own k with
      | none => loR (K ByteArray.empty false) vs (askK o k)
      | some v => loR (K v true) vs (askK o k) := by
  have hn : ¬ 100 ≤ o.asked := by omega
  show loR ((fun v f => if f = 4 then K ByteArray.empty false else if f = 0 then K v true else err f) (lgS vs o k) (lgF vs o k)) vs (lgO o k) = _
  unfold lgS lgF lgO
  simp only [hk, if_true, hn, if_false]
  cases seeO vs o.sees o.own k <;> simp
theorem lo_allL {n : ByteArray} {K : List Lot → Pg} {vs : List Ver} {o : Ox} (ha : o.asked < 100) : loR (allL n K) vs o = loR (K (lots (rngO vs o.sees o.own (loK 112 n) (heK 112 n)))) vs (askR o (loK 112 n) (heK 112 n)) := by
  have hn : ¬ 100 ≤ o.asked := by omega
  show loR ((fun l f => if f = 0 then K (lots l) else err f) (lrS vs o (loK 112 n) (heK 112 n)) (lrF o)) vs (lrO o (loK 112 n) (heK 112 n)) = _
  unfold lrS lrF lrO
  simp [hn]
theorem lo_allA {n : ByteArray} {K : List Int → Pg} {vs : List Ver} {o : Ox} (ha : o.asked < 100) : loR (allA n K) vs o = loR (K (plcd (rngO vs o.sees o.own (loK 97 n) (heK 97 n)))) vs (askR o (loK 97 n) (heK 97 n)) := by
  have hn : ¬ 100 ≤ o.asked := by omega
  show loR ((fun l f => if f = 0 then K (plcd l) else err f) (lrS vs o (loK 97 n) (heK 97 n)) (lrF o)) vs (lrO o (loK 97 n) (heK 97 n)) = _
  unfold lrS lrF lrO
  simp [hn]
theorem insC_len : ∀ (l : List Chg) (c : Chg), (insC l c).length ≤ l.length + 1
  | [], _ => Nat.le_refl _
  | x :: r, c => by
    rw [insC]
    split
    · simp
    · split
      · simp
      · have := insC_len r c
        simp only [List.length_cons]
        omega
theorem lo_puts {k v : ByteArray} {a : An} {vs : List Ver} {o : Ox} (h : shF k v = 0) (hl : o.own.length < 20) : loR (puts k v a) vs o = (a, 0, { o with own := insC o.own ⟨k, v, false⟩ }) := by
  have hn : ¬ 20 < (insC o.own ⟨k, v, false⟩).length := by have := insC_len o.own ⟨k, v, false⟩; omega
  show loR ((fun f => if f = 0 then Pg.ret a 0 else err f) (lcF o ⟨k, v, false⟩)) vs (lcO o ⟨k, v, false⟩) = _
  unfold lcF lcO
  simp only [h, if_true, hn, if_false]
  rfl
theorem lo_drops {k : ByteArray} {vs : List Ver} {o : Ox} (h : shF k ByteArray.empty = 0) (hl : o.own.length < 20) : loR (drops k) vs o = (an0, 0, { o with own := insC o.own ⟨k, ByteArray.empty, true⟩ }) := by
  have hn : ¬ 20 < (insC o.own ⟨k, ByteArray.empty, true⟩).length := by have := insC_len o.own ⟨k, ByteArray.empty, true⟩; omega
  show loR (err (lcF o ⟨k, ByteArray.empty, true⟩)) vs (lcO o ⟨k, ByteArray.empty, true⟩) = _
  unfold lcF lcO
  simp only [h, if_true, hn, if_false]
  rfl
def nx : ByteArray := ⟨#[120]⟩
def nw : ByteArray := ⟨#[110, 101, 119]⟩
def cAdd (p : Bur.Sp) : Cl := ⟨2, nx, p, 0, 0, nw⟩
def cPlc (a : Int) : Cl := ⟨4, nx, (0, 0), 0, a, nw⟩
def cWho (a : Int) : Cl := ⟨9, nx, (0, 0), 0, a, ByteArray.empty⟩
def cLve (a : Int) : Cl := ⟨5, nx, (0, 0), 0, a, ByteArray.empty⟩
def cTak (p : Bur.Sp) : Cl := ⟨3, nx, p, 0, 0, ByteArray.empty⟩
theorem nx_n : Bur.isN nx.data.toList = true := by decide
theorem nw_n : Bur.isN nw.data.toList = true := by decide
theorem cl_add (p : Bur.Sp) : clF (cAdd p) = Bur.fault p.1 p.2 := by simp [clF, cAdd, nx_n, nw_n]
theorem cl_tak (p : Bur.Sp) : clF (cTak p) = Bur.fault p.1 p.2 := by simp [clF, cTak, nx_n]
theorem cl_plc (a : Int) : clF (cPlc a) = Bur.fault a 32 := by simp [clF, cPlc, nx_n, nw_n]
theorem cl_lve (a : Int) : clF (cLve a) = Bur.fault a 32 := by simp [clF, cLve, nx_n]
theorem cl_who (a : Int) : clF (cWho a) = Bur.fault a 32 := by simp [clF, cWho, nx_n]
theorem txt_inj {l m : List UInt8} (h : txt l = txt m) : l = m := by
  have := congrArg (fun b : ByteArray => b.data.toList) h
  simpa [txt] using this
theorem np_ne (n : ByteArray) (p : Bur.Sp) : kN n ≠ kP n p := fun h => by
  have := txt_inj h
  simp [Bur.netK, Bur.pfxK] at this
theorem na_ne (n : ByteArray) (a : Int) : kN n ≠ kA n a := fun h => by
  have := txt_inj h
  simp [Bur.netK, Bur.adrK] at this
structure Bt (m n : Nat) (o o' : Ox) : Prop where
  id : o'.id = o.id
  se : o'.sees = o.sees
  ask : o'.asked ≤ o.asked + m
  len : o'.own.length ≤ o.own.length + n
theorem sh_nm {c : Cl} (h : clF c = 0) : shF (kN c.nm) ByteArray.empty = 0 := shF_of (by rw [kN_size]; omega) (by rw [kN_size]; have := (clF_in h).2.2; omega) (by decide)
theorem sh_pk {c : Cl} (h : clF c = 0) (p : Bur.Sp) {v : ByteArray} (hv : v.size ≤ 12) : shF (kP c.nm p) v = 0 := shF_of (by rw [kP_size]; omega) (by rw [kP_size]; have := (clF_in h).2.2; omega) hv
theorem sh_ak {c : Cl} (h : clF c = 0) (a : Int) {v : ByteArray} (hv : v.size ≤ 12) : shF (kA c.nm a) v = 0 := shF_of (by rw [kA_size]; omega) (by rw [kA_size]; have := (clF_in h).2.2; omega) hv
theorem lo_bad {c : Cl} (h : clF c ≠ 0) (vs : List Ver) (o : Ox) : loR (doP c) vs o = (an0, clF c, o) := by
  unfold doP
  rw [if_neg h]
  rfl
theorem lo_work {c : Cl} (h : clF c = 0) {vs : List Ver} {o : Ox} (ha : o.asked < 100) : loR (doP c) vs o = match seeO vs o.sees o.own (kN c.nm) with
    | none => loR (pBody c false) vs (askK o (kN c.nm))
    | some _ => loR (pBody c true) vs (askK o (kN c.nm)) := by
  unfold doP
  rw [if_pos h, pWork_is, lo_asks (sh_nm h) ha]
theorem body_no {c : Cl} (h : c.what ≠ 1) : pBody c false = err 4 := by simp [pBody, h]
theorem body_2 {c : Cl} (h : c.what = 2) : pBody c true = pAdd c := by simp [pBody, h]
theorem body_3 {c : Cl} (h : c.what = 3) : pBody c true = pTake c := by simp [pBody, h]
theorem body_4 {c : Cl} (h : c.what = 4) : pBody c true = pPlace c := by simp [pBody, h]
theorem body_5 {c : Cl} (h : c.what = 5) : pBody c true = pLeave c := by simp [pBody, h]
theorem body_9 {c : Cl} (h : c.what = 9) : pBody c true = pWho c := by simp [pBody, h]
theorem lo_add (c : Cl) (hw : c.what = 2) (ho : c.ow.size ≤ 12) (vs : List Ver) (o : Ox) (ha : o.asked < 90) (hl : o.own.length < 10) :
    (loR (doP c) vs o).2.1 ≠ 0 ∨ (clF c = 0 ∧ (seeO vs o.sees o.own (kN c.nm)).isSome = true ∧ seeO vs o.sees o.own (kP c.nm c.p) = none ∧ (loR (doP c) vs o).2.1 = 0 ∧ (loR (doP c) vs o).2.2.own = insC o.own ⟨kP c.nm c.p, c.ow, false⟩ ∧ Bt 4 1 o (loR (doP c) vs o).2.2) := by
  generalize hR : loR (doP c) vs o = R
  by_cases hc : clF c = 0
  · rw [lo_work hc (by omega)] at hR
    cases e : seeO vs o.sees o.own (kN c.nm) with
    | none =>
      rw [e, body_no (by omega)] at hR
      subst hR
      exact .inl (show (4 : Int) ≠ 0 by decide)
    | some v =>
      rw [e, body_2 hw] at hR
      replace hR : loR (asks (kP c.nm c.p) fun _ is => if is = true then err 6 else puts (kP c.nm c.p) c.ow an0) vs (askK o (kN c.nm)) = R := hR
      rw [lo_asks (sh_pk hc _ (by decide)) (by show o.asked + 1 < 100; omega)] at hR
      cases e2 : seeO vs o.sees o.own (kP c.nm c.p) with
      | some v2 =>
        rw [show seeO vs (askK o (kN c.nm)).sees (askK o (kN c.nm)).own (kP c.nm c.p) = some v2 from e2] at hR
        subst hR
        exact .inl (show (6 : Int) ≠ 0 by decide)
      | none =>
        rw [show seeO vs (askK o (kN c.nm)).sees (askK o (kN c.nm)).own (kP c.nm c.p) = none from e2] at hR
        simp only at hR
        rw [if_neg (by decide), lo_puts (sh_pk hc _ ho) (by show o.own.length < 20; omega)] at hR
        subst hR
        exact .inr ⟨hc, rfl, rfl, rfl, rfl, rfl, rfl, by show o.asked + 1 + 1 ≤ _; omega, insC_len _ _⟩
  · rw [lo_bad hc] at hR
    subst hR
    exact .inl hc
theorem lo_plc (c : Cl) (hw : c.what = 4) (ho : c.ow.size ≤ 12) (vs : List Ver) (o : Ox) (ha : o.asked < 90) (hl : o.own.length < 10) :
    ((loR (doP c) vs o).2.1 ≠ 0 ∧ (loR (doP c) vs o).2.2.own = o.own ∧ Bt 4 1 o (loR (doP c) vs o).2.2) ∨ (clF c = 0 ∧ (seeO vs o.sees o.own (kN c.nm)).isSome = true ∧ seeO vs o.sees o.own (kA c.nm c.ad) = none ∧ (loR (doP c) vs o).2.1 = 0 ∧ (loR (doP c) vs o).2.2.own = insC o.own ⟨kA c.nm c.ad, c.ow, false⟩ ∧ Bt 4 1 o (loR (doP c) vs o).2.2) := by
  generalize hR : loR (doP c) vs o = R
  by_cases hc : clF c = 0
  · rw [lo_work hc (by omega)] at hR
    cases e : seeO vs o.sees o.own (kN c.nm) with
    | none =>
      rw [e, body_no (by omega)] at hR
      subst hR
      exact .inl ⟨(show (4 : Int) ≠ 0 by decide), rfl, rfl, rfl, by show o.asked + 1 ≤ _; omega, Nat.le_succ _⟩
    | some v =>
      rw [e, body_4 hw] at hR
      replace hR : loR (allL c.nm fun l => asks (kA c.nm c.ad) fun _ is => if hav l c.ad = [] then err 7 else if is = true then err 6 else puts (kA c.nm c.ad) c.ow an0) vs (askK o (kN c.nm)) = R := hR
      rw [lo_allL (by show o.asked + 1 < 100; omega), lo_asks (sh_ak hc _ (by decide)) (by show o.asked + 1 + 1 < 100; omega)] at hR
      generalize lots (rngO vs (askK o (kN c.nm)).sees (askK o (kN c.nm)).own (loK 112 c.nm) (heK 112 c.nm)) = L at hR
      have hcut : ∀ f, f ≠ 0 → (an0, f, askK (askR (askK o (kN c.nm)) (loK 112 c.nm) (heK 112 c.nm)) (kA c.nm c.ad)) = R → (R.2.1 ≠ 0 ∧ R.2.2.own = o.own ∧ Bt 4 1 o R.2.2) := fun f hf h => by
        subst h
        exact ⟨hf, rfl, rfl, rfl, by show o.asked + 1 + 1 + 1 ≤ _; omega, Nat.le_succ _⟩
      cases e2 : seeO vs o.sees o.own (kA c.nm c.ad) with
      | some v2 =>
        rw [show seeO vs (askR (askK o (kN c.nm)) (loK 112 c.nm) (heK 112 c.nm)).sees (askR (askK o (kN c.nm)) (loK 112 c.nm) (heK 112 c.nm)).own (kA c.nm c.ad) = some v2 from e2] at hR
        simp only at hR
        split at hR
        · exact .inl (hcut 7 (by decide) hR)
        · exact .inl (hcut 6 (by decide) hR)
      | none =>
        rw [show seeO vs (askR (askK o (kN c.nm)) (loK 112 c.nm) (heK 112 c.nm)).sees (askR (askK o (kN c.nm)) (loK 112 c.nm) (heK 112 c.nm)).own (kA c.nm c.ad) = none from e2] at hR
        simp only at hR
        split at hR
        · exact .inl (hcut 7 (by decide) hR)
        · rw [if_neg (by decide), lo_puts (sh_ak hc _ ho) (by show o.own.length < 20; omega)] at hR
          subst hR
          exact .inr ⟨hc, rfl, rfl, rfl, rfl, rfl, rfl, by show o.asked + 1 + 1 + 1 ≤ _; omega, insC_len _ _⟩
  · rw [lo_bad hc] at hR
    subst hR
    exact .inl ⟨hc, rfl, rfl, rfl, by show o.asked ≤ _; omega, Nat.le_succ _⟩
theorem lo_who (c : Cl) (hw : c.what = 9) (hc : clF c = 0) (vs : List Ver) (o : Ox) (ha : o.asked < 90) {v : ByteArray} (h1 : (seeO vs o.sees o.own (kN c.nm)).isSome = true) (h2 : seeO vs o.sees o.own (kA c.nm c.ad) = some v) :
    (loR (doP c) vs o).2.1 = 0 ∧ (loR (doP c) vs o).1.ow = v ∧ (loR (doP c) vs o).2.2.own = o.own ∧ Bt 4 1 o (loR (doP c) vs o).2.2 := by
  generalize hR : loR (doP c) vs o = R
  rw [lo_work hc (by omega)] at hR
  cases e : seeO vs o.sees o.own (kN c.nm) with
  | none => rw [e] at h1; cases h1
  | some v1 =>
    rw [e, body_9 hw] at hR
    replace hR : loR (asks (kA c.nm c.ad) fun v is => if is = true then .ret ⟨(0, 0), 0, v, []⟩ 0 else allL c.nm fun l => match (hav l c.ad).getLast? with
      | none => err 4
      | some o => .ret ⟨(0, 0), 0, o.2, []⟩ 0) vs (askK o (kN c.nm)) = R := hR
    rw [lo_asks (sh_ak hc _ (by decide)) (by show o.asked + 1 < 100; omega), show seeO vs (askK o (kN c.nm)).sees (askK o (kN c.nm)).own (kA c.nm c.ad) = some v from h2] at hR
    simp only at hR
    rw [if_pos trivial] at hR
    subst hR
    exact ⟨rfl, rfl, rfl, rfl, rfl, by show o.asked + 1 + 1 ≤ _; omega, Nat.le_succ _⟩
theorem lo_lve (c : Cl) (hw : c.what = 5) (hc : clF c = 0) (vs : List Ver) (o : Ox) (ha : o.asked < 90) (hl : o.own.length < 10) {v : ByteArray} (h1 : (seeO vs o.sees o.own (kN c.nm)).isSome = true) (h2 : seeO vs o.sees o.own (kA c.nm c.ad) = some v) :
    (loR (doP c) vs o).2.1 = 0 ∧ (loR (doP c) vs o).2.2.own = insC o.own ⟨kA c.nm c.ad, ByteArray.empty, true⟩ ∧ Bt 4 1 o (loR (doP c) vs o).2.2 := by
  generalize hR : loR (doP c) vs o = R
  rw [lo_work hc (by omega)] at hR
  cases e : seeO vs o.sees o.own (kN c.nm) with
  | none => rw [e] at h1; cases h1
  | some v1 =>
    rw [e, body_5 hw] at hR
    replace hR : loR (asks (kA c.nm c.ad) fun _ is => if is = true then drops (kA c.nm c.ad) else err 4) vs (askK o (kN c.nm)) = R := hR
    rw [lo_asks (sh_ak hc _ (by decide)) (by show o.asked + 1 < 100; omega), show seeO vs (askK o (kN c.nm)).sees (askK o (kN c.nm)).own (kA c.nm c.ad) = some v from h2] at hR
    simp only at hR
    rw [if_pos trivial, lo_drops (sh_ak hc _ (by decide)) (by show o.own.length < 20; omega)] at hR
    subst hR
    exact ⟨rfl, rfl, rfl, rfl, by show o.asked + 1 + 1 ≤ _; omega, insC_len _ _⟩
theorem lo_tak (c : Cl) (hw : c.what = 3) (hc : clF c = 0) (vs : List Ver) (o : Ox) (ha : o.asked < 90) (hl : o.own.length < 10) {v : ByteArray} (h1 : (seeO vs o.sees o.own (kN c.nm)).isSome = true) (h2 : seeO vs o.sees o.own (kP c.nm c.p) = some v) :
    ((loR (doP c) vs o).2.1 = 7 ∨ ((loR (doP c) vs o).2.1 = 0 ∧ (loR (doP c) vs o).2.2.own = insC o.own ⟨kP c.nm c.p, ByteArray.empty, true⟩)) ∧ Bt 4 1 o (loR (doP c) vs o).2.2 := by
  generalize hR : loR (doP c) vs o = R
  rw [lo_work hc (by omega)] at hR
  cases e : seeO vs o.sees o.own (kN c.nm) with
  | none => rw [e] at h1; cases h1
  | some v1 =>
    rw [e, body_3 hw] at hR
    replace hR : loR (asks (kP c.nm c.p) fun _ is => if is = true then allL c.nm fun l => allA c.nm fun u => if tkF c.p l u = true then err 7 else drops (kP c.nm c.p) else err 4) vs (askK o (kN c.nm)) = R := hR
    rw [lo_asks (sh_pk hc _ (by decide)) (by show o.asked + 1 < 100; omega), show seeO vs (askK o (kN c.nm)).sees (askK o (kN c.nm)).own (kP c.nm c.p) = some v from h2] at hR
    simp only at hR
    rw [if_pos trivial, lo_allL (by show o.asked + 1 + 1 < 100; omega), lo_allA (by show o.asked + 1 + 1 + 1 < 100; omega)] at hR
    split at hR
    · subst hR
      exact ⟨.inl rfl, rfl, rfl, by show o.asked + 1 + 1 + 1 + 1 ≤ _; omega, Nat.le_succ _⟩
    · rw [lo_drops (sh_pk hc _ (by decide)) (by show o.own.length < 20; omega)] at hR
      subst hR
      exact ⟨.inr ⟨rfl, rfl⟩, rfl, rfl, by show o.asked + 1 + 1 + 1 + 1 ≤ _; omega, insC_len _ _⟩
structure Sg (k : Nat) (d : Dk) (o : Ox) : Prop where
  dp : Dp k d
  op1 : d.op = [o]
  se : o.sees = d.last
  up : UpL d.lg
  ls : 2 * d.lg.ls.length ≤ k
theorem Sg.at {k : Nat} {d : Dk} {o : Ox} (h : Sg k d o) : opI d o.id = some o := by
  unfold opI
  rw [h.op1]
  simp
theorem Sg.ris {k : Nat} {d : Dk} {o : Ox} (h : Sg k d o) : risC o.own := chF_ris (h.dp.ok.op o (by rw [h.op1]; simp)).own
theorem Oc.open {k : Nat} {d : Dk} (h : Oc k d) : bgF d = 0 ∧ bgN d = d.ids + 1 ∧ Sg (k + 1) (bgD d) (ox0 (d.ids + 1) d.last) ∧ (bgD d).vs = d.vs ∧ (bgD d).last = d.last := by
  have e0 := bgD_ok (d := d) (by rw [h.op0]; decide) h.up
  refine ⟨h.bg, bgN_ok (d := d) (by rw [h.op0]; decide) h.up, ⟨h.dp.bg, ?_, ?_, ?_, ?_⟩, ?_, ?_⟩
  · rw [e0, h.op0]; rfl
  · rw [e0]; rfl
  · rw [e0]; exact h.up
  · rw [e0]; have := h.ls; show 2 * d.lg.ls.length ≤ _; omega
  · rw [e0]
  · rw [e0]
theorem Sg.ask {k : Nat} {d : Dk} {o : Ox} (h : Sg k d o) (c : Cl) : runA (doP c) d o.id = (loR (doP c) d.vs o).1 ∧ runF (doP c) d o.id = (loR (doP c) d.vs o).2.1 ∧ Sg (k + 1) (runD (doP c) d o.id) (loR (doP c) d.vs o).2.2 ∧ (loR (doP c) d.vs o).2.2.id = o.id ∧ (runD (doP c) d o.id).vs = d.vs ∧ (runD (doP c) d o.id).last = d.last := by
  obtain ⟨r1, r2, r3⟩ := run_lo (doP c) d o.id o h.dp.ok.ids h.at
  have hid := lo_id (doP c) d.vs o
  refine ⟨r1, r2, ⟨dp_run h.dp c _, ?_, ?_, ?_, ?_⟩, hid.1, ?_, ?_⟩
  · rw [r3]
    show d.op.map _ = _
    rw [h.op1]
    simp [hid.1]
  · rw [r3, hid.2]; exact h.se
  · rw [r3]; exact h.up
  · rw [r3]; have := h.ls; show 2 * d.lg.ls.length ≤ _; omega
  · rw [r3]; rfl
  · rw [r3]; rfl
theorem Sg.cm {k : Nat} {d : Dk} {o : Ox} (h : Sg k d o) (hk : k ≤ 180) : cmF d o.id = 0 ∧ Oc (k + 2) (cmD d o.id) ∧ ∀ key, vget (cmD d o.id).vs key (cmD d o.id).last = seeO d.vs o.sees o.own key := by
  have ho : o ∈ d.op := by rw [h.op1]; simp
  have hcl := clash_last h.dp.ok h.se
  have hch := (h.dp.ok.op o ho).own
  have hroom := h.up.room h.dp.ok.lg (by have := h.ls; omega) hch
  have hdel : (opDel d o.id).op = [] := by
    show d.op.filter _ = []
    rw [h.op1]
    simp
  refine ⟨?_, ⟨(h.dp.cm _).more, by rw [(cm_ls _ _).2]; exact hdel, cm_up h.up _, ?_⟩, fun key => ?_⟩
  · unfold cmF
    rw [h.at]
    simp only
    rw [if_neg (by rw [hcl]; decide), hroom]
    split <;> rfl
  · have := (cm_ls d o.id).1
    have := h.ls
    omega
  · unfold cmD
    rw [h.at]
    simp only
    rw [if_neg (by rw [hcl]; decide)]
    by_cases e : o.own = []
    · rw [if_pos e, e, seeO_nil, h.se]; rfl
    · rw [if_neg e, if_pos hroom, h.se]
      exact own_get h.dp.ok.tb h.dp.ok.tl (show d.last < d.last + 1 by omega) h.ris key
end Go.Proofs.YthaggkmammfpbaaGreatDoor.Pa

namespace Go.Proofs.YthaggkmammfpbaaGreatDoor.Pa
open Go.RowKit Go.Maps Vs

def zz : ByteArray := ⟨#[122]⟩
theorem zz_n : Bur.isN zz.data.toList = true := by decide
theorem spAt_row {w : World} {B n cap : Nat} {p : Option Addr} {l : List Bur.Sp} (h : w.ownsRow B 31 2 (.slice p n cap) l.length (pfV l)) : Ta.SpAt w p l := (Ta.spAt_own (B := B) (n := n) (cap := cap) h).2
theorem own_le {w : World} {B e size n : Nat} {v : Value} {xs : List Value} (h : w.ownsRow B e size v n xs) : n ≤ 9223372036854775807 := by
  rcases h.2 with ⟨_, h0⟩ | ⟨g, cap, cur, h0, _, hg, h1, h2, _⟩
  · omega
  · unfold maxLen at h2; omega
theorem pair_lens {d : Dk} {k : Nat} (h : Dp k d) (hk : k ≤ 800) : (allP d).length ≤ 1000000 := by
  have h1 := allP_len d
  have h2 := h.ok.len
  have h3 := h.wl
  unfold wt at h3
  omega
section
variable {T : Td} {GX GY : Nat → Prop} {Sx Sy : Ses} {dx dy : Dk} {X Y bA bB k : Nat} {a : An} {pu qu : Option Addr} {cu cv : Nat} {nn : Int} {w wx : World} {vf : Value}
set_option maxRecDepth 100000 in
set_option maxHeartbeats 4000000 in
theorem ho3 (V : DFace T) {c0 c1 c2 c3 c4 c9 c12 c13 c15 c19 c20 c21 c22 c23 c24 c25 c26 c27 c28 c29 c30 c31 c32 c33 c34 c35 c36 c37 c38 c39 c40 c41 c42 c43 c44 c45 c46 c47 c48 c49 c50 c51 c52 c53 c54 c55 c56 c57 c58 c59 c60 c61 c62 c63 c64 c65 c66 c67 c68 c69 c70 c71 c72 c73 c74 c75 c76 c77 c78 c79 c80 c81 c82 c83 c84 c85 c86 c87 c88 c89 c90 c91 c92 c93 c94 c95 c96 c97 c98 c99 c100 c101 c102 c103 c104 c105 c106 c107 c108 c109 c110 c111 c112 c113 c114 c115 c116 c117 c118 c119 c120 c121 c122 c123 c124 c125 c126 c127 c128 c129 c130 c131 c132 c133 c134 c135 c136 c137 c138 c139 c140 c141 c142 : Value}
    (hv : vf = .nilIface ∨ ∃ f, vf = errN f) (hX : Hl T wx GX X dx Sx) (px : Dp k dx) (hY : Hl T wx GY Y dy Sy) (py : Dp k dy) (hk : k ≤ 800) (he : allP dx = allP dy)
    (a1 : Ab wx bA (.int .i64 a.p.1) (.int .i64 a.p.2) (.int .i64 a.ad) (.string a.ow) (.slice pu a.l.length cu)) (a2 : Ab wx bB (.int .i64 a.p.1) (.int .i64 a.p.2) (.int .i64 a.ad) (.string a.ow) (.slice qu a.l.length cv)) (s1 : Ta.SpAt wx pu a.l) (s2 : Ta.SpAt wx qu a.l) (hl : a.l.length ≤ 9223372036854775807) (bl : Below w.heap.size w wx) :
    Code.wp Tryz.prog (dropSeq 13 (Tryz.f7.body.getD .skip)) (bodyPost Tryz.prog Tryz.f7 fun e w' => e = .returned (.bool true) ∧ Below w.heap.size w w') ⟨#[c0, c1, c2, c3, c4, .pointer (some ⟨X, 0, none⟩), .nilIface, .pointer (some ⟨Y, 0, none⟩), .nilIface, c9, .int .i64 nn, vf, c12, c13, vf, c15, .pointer (some ⟨bA, 0, none⟩), .pointer (some ⟨bB, 0, none⟩), .int .i64 nn, c19, c20, c21, c22, c23, c24, c25, c26, c27, c28, c29, c30, c31, c32, c33, c34, c35, c36, c37, c38, c39, c40, c41, c42, c43, c44, c45, c46, c47, c48, c49, c50, c51, c52, c53, c54, c55, c56, c57, c58, c59, c60, c61, c62, c63, c64, c65, c66, c67, c68, c69, c70, c71, c72, c73, c74, c75, c76, c77, c78, c79, c80, c81, c82, c83, c84, c85, c86, c87, c88, c89, c90, c91, c92, c93, c94, c95, c96, c97, c98, c99, c100, c101, c102, c103, c104, c105, c106, c107, c108, c109, c110, c111, c112, c113, c114, c115, c116, c117, c118, c119, c120, c121, c122, c123, c124, c125, c126, c127, c128, c129, c130, c131, c132, c133, c134, c135, c136, c137, c138, c139, c140, c141, c142], []⟩ wx := by
  conv => arg 2; whnf
  have P1 := answersSame a pu qu cu cv wx hl s1 s2
  obtain ⟨x0, x1, x2, x3, x4, _, _, _, _, _⟩ := id a1
  obtain ⟨y0, y1, y2, y3, y4, _, _, _, _, _⟩ := id a2
  have BL : Hid (Below w.heap.size w wx) := bl
  have HE : Hid (allP dx = allP dy) := he
  clear he bl
  have ln := pair_lens px hk
  go_wp2_with fail
  refine P1.mono ?_
  rintro e w1 ⟨rfl, b1⟩
  have P2 := hallAll V (hX.step V b1) px.ok (px.sm (by omega))
  clear P1 x0 x1 x2 x3 x4 y0 y1 y2 y3 y4
  go_wp2_with fail
  refine P2.mono ?_
  rintro e w2 ⟨q, cq, rfl, hc1, pr1, b2⟩
  have P3 := hallAll V ((hY.step V b1).step V b2) py.ok (py.sm (by omega))
  clear P2
  go_wp2_with fail
  refine P3.mono ?_
  rintro e w3 ⟨q2, cq2, rfl, hc2, pr2, b3⟩
  have P4 := samePairs (allP dx) (allP dy) q q2 cq cq2 w3 ln (pr1.at.step b3) pr2.at
  rw [decide_eq_true HE.out] at P4
  clear P3
  go_wp2_with fail
  refine P4.mono ?_
  rintro e w4 ⟨rfl, hw4⟩
  clear P4 pr1 pr2 hc1 hc2 ln
  rcases hv with rfl | ⟨f, rfl⟩
  all_goals (
    go_wp2_with fail
    go_quiet (fail)
    go_wp2_with fail
    go_ret)
  all_goals exact ⟨rfl, below_via (below_via (below_via (below_via (below_via BL.out b1) b2) b3) hw4) (below_drewN (below_self _) _)⟩
theorem row_kept {w w' : World} {K : Nat → Prop} {B e size n : Nat} {v : Value} {xs : List Value} (h : w.ownsRow B e size v n xs) (hb : But (fun j => ¬ K j) w w') (hv : ∀ j, v.ownBlock = some j → K j) : w'.ownsRow B e size v n xs := Go.Proofs.YthaggkmammfpbaaGreatDoor.row_but h hb (fun j hj q => q (hv j hj))
set_option maxRecDepth 100000 in
set_option maxHeartbeats 4000000 in
theorem ho2 (V : DFace T) {d : Dk} {c : Cl} {c0 c1 c2 c4 c6 c8 c9 c10 c11 c12 c13 c14 c15 c16 c17 c18 c19 c20 c21 c22 c23 c24 c25 c26 c27 c28 c29 c30 c31 c32 c33 c34 c35 c36 c37 c38 c39 c40 c41 c42 c43 c44 c45 c46 c47 c48 c49 c50 c51 c52 c53 c54 c55 c56 c57 c58 c59 c60 c61 c62 c63 c64 c65 c66 c67 c68 c69 c70 c71 c72 c73 c74 c75 c76 c77 c78 c79 c80 c81 c82 c83 c84 c85 c86 c87 c88 c89 c90 c91 c92 c93 c94 c95 c96 c97 c98 c99 c100 c101 c102 c103 c104 c105 c106 c107 c108 c109 c110 c111 c112 c113 c114 c115 c116 c117 c118 c119 c120 c121 c122 c123 c124 c125 c126 c127 c128 c129 c130 c131 c132 c133 c134 c135 c136 c137 c138 c139 c140 c141 c142 : Value}
    (hX : Hl T wx GX X d []) (hY : Hl T wx GY Y d []) (dis : ∀ j, GX j → ¬ GY j) (lx : ∀ j, GX j → w.heap.size < j) (ly : ∀ j, GY j → w.heap.size < j) (oc : Oc k d) (hk : k ≤ 130) (cb : Cb wx w.heap.size c) (bl : Below w.heap.size w wx) :
    Code.wp Tryz.prog (dropSeq 8 (Tryz.f7.body.getD .skip)) (bodyPost Tryz.prog Tryz.f7 fun e w' => e = .returned (.bool true) ∧ Below w.heap.size w w') ⟨#[c0, c1, c2, .pointer (some ⟨w.heap.size, 0, none⟩), c4, .pointer (some ⟨X, 0, none⟩), c6, .pointer (some ⟨Y, 0, none⟩), c8, c9, c10, c11, c12, c13, c14, c15, c16, c17, c18, c19, c20, c21, c22, c23, c24, c25, c26, c27, c28, c29, c30, c31, c32, c33, c34, c35, c36, c37, c38, c39, c40, c41, c42, c43, c44, c45, c46, c47, c48, c49, c50, c51, c52, c53, c54, c55, c56, c57, c58, c59, c60, c61, c62, c63, c64, c65, c66, c67, c68, c69, c70, c71, c72, c73, c74, c75, c76, c77, c78, c79, c80, c81, c82, c83, c84, c85, c86, c87, c88, c89, c90, c91, c92, c93, c94, c95, c96, c97, c98, c99, c100, c101, c102, c103, c104, c105, c106, c107, c108, c109, c110, c111, c112, c113, c114, c115, c116, c117, c118, c119, c120, c121, c122, c123, c124, c125, c126, c127, c128, c129, c130, c131, c132, c133, c134, c135, c136, c137, c138, c139, c140, c141, c142], []⟩ wx := by
  have e1 : onF d c = onG d c := oc.onF (by omega) c
  obtain ⟨e2, e3⟩ := oc.an (by omega) c
  have f0 : hoF d [] zz = 0 := by unfold hoF; rw [if_pos zz_n, if_neg (by simp [sId])]; exact oc.bg
  have f1 : hoD d [] zz = bgD d := if_pos ⟨zz_n, rfl⟩
  have f2 : hoS d [] zz = [(zz, bgN d)] := if_pos f0
  have g0 : sId [(zz, bgN d)] zz = some (bgN d) := if_pos rfl
  have h1 : haF (bgD d) [(zz, bgN d)] zz c = onG d c := by unfold haF; rw [g0]; rfl
  have h2 : haA (bgD d) [(zz, bgN d)] zz c = onA d c := by unfold haA; rw [g0]; exact e2.symm
  have h3 : haD (bgD d) [(zz, bgN d)] zz c = onX d c := by unfold haD; rw [g0]; rfl
  have px : Dp (k + 3) (onD d c) := (oc.next c).dp
  have py : Dp (k + 2) (onX d c) := dp_run oc.dp.bg c (bgN d)
  have c1 : hcF (onX d c) [(zz, bgN d)] zz = 0 := by unfold hcF; rw [g0]; exact oc.cm (by omega) c
  have c2 : hcN (onX d c) [(zz, bgN d)] zz = cmN (onX d c) (bgN d) := by unfold hcN; rw [g0]
  have c3 : hcD (onX d c) [(zz, bgN d)] zz = cmD (onX d c) (bgN d) := by unfold hcD; rw [g0]
  have u1 : hqF (onX d c) [(zz, bgN d)] zz = 0 := by unfold hqF; rw [g0]; exact on_open c oc.bg
  have u2 : hqD (onX d c) [(zz, bgN d)] zz = opDel (onX d c) (bgN d) := by unfold hqD; rw [g0]
  have pz : Dp (k + 3) (if onG d c = 0 then cmD (onX d c) (bgN d) else opDel (onX d c) (bgN d)) := by split; exact py.cm _; exact py.del _
  have ez : onD d c = (if onG d c = 0 then cmD (onX d c) (bgN d) else opDel (onX d c) (bgN d)) := by unfold onD; rw [if_pos oc.bg]
  have P1 := hallOnce V c hX oc.dp.ok (by have := oc.dp.wl; omega) (by have := oc.dp.ids; omega) oc.dp.spz
  have P2 := fun {K : Nat → Prop} {wz : World} (h : H1 T w K wz Y d []) => h.open V zz oc.dp (by omega) (by decide) (by decide)
  have P3 := fun {K : Nat → Prop} {wz : World} (h : H1 T w K wz Y (bgD d) [(zz, bgN d)]) => h.ask V zz c oc.dp.bg (by omega) (by decide)
  have P4 := fun {K : Nat → Prop} {wz : World} (h : H1 T w K wz Y (onX d c) [(zz, bgN d)]) => h.close V zz py (by omega) (by decide)
  have P5 := fun {K : Nat → Prop} {wz : World} (h : H1 T w K wz Y (onX d c) [(zz, bgN d)]) => h.quit V zz py (by omega) (by decide)
  rw [e1, e3] at P1
  rw [f0, f1, f2, ev_0] at P2
  rw [h1, h2, h3] at P3
  rw [c1, c2, c3, ev_0] at P4
  rw [u1, u2, ev_0] at P5
  rw [ez] at P1 px
  clear e1 e2 e3 f0 f1 f2 g0 h1 h2 h3 c1 c2 c3 u1 u2 ez oc py
  conv => arg 2; whnf
  obtain ⟨q0, q1, q2, q3, q4, q5, q6⟩ := id cb
  generalize onA d c = a at P1 P3
  generalize hnn : (if onG d c = 0 then cmN (onX d c) (bgN d) else 0) = nn at P1
  generalize hdx : (if onG d c = 0 then cmD (onX d c) (bgN d) else opDel (onX d c) (bgN d)) = dx at P1 px pz
  have HN : Hid _ := hnn
  have HD : Hid _ := hdx
  clear hnn hdx
  generalize cmN (onX d c) (bgN d) = nm at P4 HN
  generalize cmD (onX d c) (bgN d) = dc at P4 HD
  generalize opDel (onX d c) (bgN d) = dq at P5 HD
  generalize onX d c = d2 at P3 P4 P5
  generalize bgD d = d1 at P2 P3
  generalize bgN d = i1 at P2 P3 P4 P5
  generalize onG d c = f at P1 P3 HN HD
  go_wp2_with fail
  refine P1.mono ?_
  rintro e w1 ⟨u, rfl, row1, GX1, hX1, nX1, bX1⟩
  obtain ⟨pu, cu, rfl⟩ := own_form row1
  clear P1 q0 q1 q2 q3 q4 q5 q6
  obtain ⟨W1, hW1⟩ : ∃ W1, W1 = w1.alloc (.cells #[.int .i64 a.p.1, .int .i64 a.p.2, .int .i64 a.ad, .string a.ow, .slice pu a.l.length cu] 48) := ⟨_, rfl⟩
  have bA1 : Below w1.heap.size w1 W1 := by rw [hW1]; exact below_al (below_self w1) _
  have ab1 : Ab W1 w1.heap.size (.int .i64 a.p.1) (.int .i64 a.p.2) (.int .i64 a.ad) (.string a.ow) (.slice pu a.l.length cu) := by rw [hW1]; exact Ab.new w1 _ _ _ _ _ _
  have row2 : W1.ownsRow wx.heap.size 31 2 (.slice pu a.l.length cu) a.l.length (pfV a.l) := by rw [hW1]; exact row1.alloc _
  have sx := bX1.size
  have sA : W1.heap.size = w1.heap.size + 1 := by rw [hW1]; simp
  have hX2 := hX1.step V bA1
  have dis1 : ∀ j, GX1 j → ¬ GY j := fun j hj q => (nX1 j hj).elim (fun g => dis j g q) (fun g => by have := hY.lt q; have := g.1; omega)
  have hY1 : Hl T w1 GY Y d [] := hY.but V bX1 (fun j hj q => dis j q hj) hX1.en
  have hY2 := hY1.step V bA1
  have bl1 : Below w.heap.size w w1 := But.under2 bl bX1 bl.size (fun i hi q => by have := lx i q; omega)
  have bl2 := below_via bl1 bA1
  have s2 := bl2.size
  have hlen : a.l.length ≤ 9223372036854775807 := own_le row1
  obtain ⟨K, hK⟩ : ∃ K : Nat → Prop, K = fun j => j < W1.heap.size ∧ ¬ GY j := ⟨_, rfl⟩
  have hy1 : H1 T w K W1 Y d [] := by
    rw [hK]
    exact ⟨⟨GY, hY2, fun j hj => hj.2⟩, fun j hj => hj.1, fun j hj => ⟨by omega, fun q => by have := ly j q; omega⟩, bl2⟩
  have kx : ∀ j, GX1 j → K j := fun j hj => by rw [hK]; exact ⟨hX2.lt hj, dis1 j hj⟩
  have kA : K w1.heap.size := by rw [hK]; exact ⟨by omega, fun q => by have := hY1.lt q; omega⟩
  have cl := (cb.but bX1 (fun q => by have := lx _ q; omega)).lt
  have kC : K w.heap.size := by rw [hK]; exact ⟨by omega, fun q => by have := ly _ q; omega⟩
  have kR : ∀ j, (Value.slice pu a.l.length cu).ownBlock = some j → K j := fun j hj => by
    have := row1.lt j hj
    rw [hK]
    exact ⟨by omega, fun q => by have := hY.lt q; omega⟩
  have cb1 : Cb W1 w.heap.size c := (cb.but bX1 (fun q => by have := lx _ q; omega)).step bA1
  clear hK hY1 hY2 hY hX hX1 dis dis1 lx ly cb bX1 nX1 row1 bl1 bl2 bl bA1 sx sA s2 cl
  have Q2 := P2 hy1
  go_wp2_with fail
  rw [← hW1]
  refine Q2.mono ?_
  rintro e w2 ⟨rfl, hy2, bt2⟩
  have hX3 := hX2.but V bt2 (fun j hj q => q (kx j hj)) hy2.en
  have ab2 := ab1.but bt2 (fun q => q kA)
  have cb2 := cb1.but bt2 (fun q => q kC)
  have row3 := row_kept row2 bt2 kR
  obtain ⟨bA, hbA⟩ : ∃ bA, bA = w1.heap.size := ⟨_, rfl⟩
  rw [← hbA] at kA ab2 ⊢
  clear P2 Q2 hX2 ab1 cb1 row2 hy1 bt2 hW1 hbA
  have Q3 := P3 hy2
  obtain ⟨q0, q1, q2, q3, q4, q5, q6⟩ := id cb2
  go_wp2_with fail
  refine Q3.mono ?_
  rintro e w3 ⟨u2, rfl, row4, hy3, bt3⟩
  obtain ⟨pv, cv, rfl⟩ := own_form row4
  clear P3 Q3 q0 q1 q2 q3 q4 q5 q6
  obtain ⟨W3, hW3⟩ : ∃ W3, W3 = w3.alloc (.cells #[.int .i64 a.p.1, .int .i64 a.p.2, .int .i64 a.ad, .string a.ow, .slice pv a.l.length cv] 48) := ⟨_, rfl⟩
  have bA3 : Below w3.heap.size w3 W3 := by rw [hW3]; exact below_al (below_self w3) _
  have ab3 : Ab W3 w3.heap.size (.int .i64 a.p.1) (.int .i64 a.p.2) (.int .i64 a.ad) (.string a.ow) (.slice pv a.l.length cv) := by rw [hW3]; exact Ab.new w3 _ _ _ _ _ _
  have row5 : W3.ownsRow w2.heap.size 31 2 (.slice pv a.l.length cv) a.l.length (pfV a.l) := by rw [hW3]; exact row4.alloc _
  have row6 : W3.ownsRow wx.heap.size 31 2 (.slice pu a.l.length cu) a.l.length (pfV a.l) := by rw [hW3]; exact (row_kept row3 bt3 kR).alloc _
  have sA3 : W3.heap.size = w3.heap.size + 1 := by rw [hW3]; simp
  have hX4 := (hX3.but V bt3 (fun j hj q => q (kx j hj)) hy3.en).step V bA3
  have ab4 := (ab2.but bt3 (fun q => q kA)).step bA3
  have hy4 := hy3.step V bA3
  obtain ⟨bB, hbB⟩ : ∃ bB, bB = w3.heap.size := ⟨_, rfl⟩
  rw [← hbB] at ab3
  obtain ⟨K3, hK3⟩ : ∃ K3 : Nat → Prop, K3 = (fun j => (K j ∨ (Value.slice pv a.l.length cv).ownBlock = some j) ∨ w3.heap.size ≤ j ∧ j < W3.heap.size) := ⟨_, rfl⟩
  rw [← hK3] at hy4
  have kB : K3 bB := by rw [hK3]; exact .inr ⟨by omega, by omega⟩
  have kx' : ∀ j, GX1 j → K3 j := fun j hj => by rw [hK3]; exact .inl (.inl (kx j hj))
  have kA' : K3 bA := by rw [hK3]; exact .inl (.inl kA)
  have kR' : ∀ j, (Value.slice pu a.l.length cu).ownBlock = some j → K3 j := fun j hj => by rw [hK3]; exact .inl (.inl (kR j hj))
  have kS : ∀ j, (Value.slice pv a.l.length cv).ownBlock = some j → K3 j := fun j hj => by rw [hK3]; exact .inl (.inr hj)
  clear hK3
  clear hX3 ab2 cb2 row3 row4 hy3 bt3 kx kA kR kC hy2 bA3
  have FIN : ∀ {w4 : World} {dy : Dk} {Sy : Ses}, H1 T w K3 w4 Y dy Sy → But (fun j => ¬ K3 j) W3 w4 → dy = dx → Hl T w4 GX1 X dx [] ∧ (∃ G S, Hl T w4 G Y dx S) ∧ Ab w4 bA (.int .i64 a.p.1) (.int .i64 a.p.2) (.int .i64 a.ad) (.string a.ow) (.slice pu a.l.length cu) ∧ Ab w4 bB (.int .i64 a.p.1) (.int .i64 a.p.2) (.int .i64 a.ad) (.string a.ow) (.slice pv a.l.length cv) ∧ Ta.SpAt w4 pu a.l ∧ Ta.SpAt w4 pv a.l ∧ Below w.heap.size w w4 := by
    intro w4 dy Sy h b e
    subst e
    obtain ⟨G, g1, _⟩ := h.ex
    exact ⟨hX4.but V b (fun j hj q => q (kx' j hj)) h.en, ⟨G, Sy, g1⟩, ab4.but b (fun q => q kA'), ab3.but b (fun q => q kB), spAt_row (row_kept row6 b kR'), spAt_row (row_kept row5 b kS), h.bl⟩
  have FH : Hid _ := @FIN
  clear FIN hX4 ab4 ab3 kx' kA' kB kR' kS row5 row6
  by_cases hf : f = 0
  · have Q4 := P4 hy4
    have E1 : Hid (nm = nn ∧ dc = dx) := ⟨by have := HN.out; rw [if_pos hf] at this; exact this, by have := HD.out; rw [if_pos hf] at this; exact this⟩
    rw [hf, ev_0]
    clear hf
    go_upto_if 103 with fail
    rw [← hW3, ← hbB]
    go_cut [8, 18] (fun s8 s18 wy => s8 = .nilIface ∧ s18 = .int .i64 nn ∧ Hl T wy GX1 X dx [] ∧ (∃ G S, Hl T wy G Y dx S) ∧ Ab wy bA (.int .i64 a.p.1) (.int .i64 a.p.2) (.int .i64 a.ad) (.string a.ow) (.slice pu a.l.length cu) ∧ Ab wy bB (.int .i64 a.p.1) (.int .i64 a.p.2) (.int .i64 a.ad) (.string a.ow) (.slice pv a.l.length cv) ∧ Ta.SpAt wy pu a.l ∧ Ta.SpAt wy pv a.l ∧ Below w.heap.size w wy)
    case first =>
      clear hW3 hbB
      go_wp2_with fail
      refine Q4.mono ?_
      rintro e w4 ⟨rfl, hy5, bt5⟩
      go_wp2_with fail
      go_meet
      exact ⟨rfl, by rw [E1.out.1], FH.out hy5 bt5 E1.out.2⟩
    case rest =>
      obtain ⟨rfl, rfl, z1, ⟨G, S, z2⟩, z3, z4, z5, z6, z7⟩ := hcut
      refine ‹∀ (a : Act) (w : World), Code.wp _ _ _ a w → _› _ _ ?_
      exact ho3 V (.inl rfl) z1 px z2 px (by omega) rfl z3 z4 z5 z6 hlen z7
  · have Q4 := P5 hy4
    have E1 : Hid (0 = nn ∧ dq = dx) := ⟨by have := HN.out; rw [if_neg hf] at this; exact this, by have := HD.out; rw [if_neg hf] at this; exact this⟩
    rw [ev_ne hf]
    clear hf
    go_upto_if 103 with fail
    rw [← hW3, ← hbB]
    go_cut [8, 18] (fun s8 s18 wy => s8 = .nilIface ∧ s18 = .int .i64 nn ∧ Hl T wy GX1 X dx [] ∧ (∃ G S, Hl T wy G Y dx S) ∧ Ab wy bA (.int .i64 a.p.1) (.int .i64 a.p.2) (.int .i64 a.ad) (.string a.ow) (.slice pu a.l.length cu) ∧ Ab wy bB (.int .i64 a.p.1) (.int .i64 a.p.2) (.int .i64 a.ad) (.string a.ow) (.slice pv a.l.length cv) ∧ Ta.SpAt wy pu a.l ∧ Ta.SpAt wy pv a.l ∧ Below w.heap.size w wy)
    case first =>
      clear hW3 hbB
      go_wp2_with fail
      refine Q4.mono ?_
      rintro e w4 ⟨rfl, hy5, bt5⟩
      go_wp2_with fail
      go_meet
      exact ⟨rfl, by rw [E1.out.1], FH.out hy5 bt5 E1.out.2⟩
    case rest =>
      obtain ⟨rfl, rfl, z1, ⟨G, S, z2⟩, z3, z4, z5, z6, z7⟩ := hcut
      refine ‹∀ (a : Act) (w : World), Code.wp _ _ _ a w → _› _ _ ?_
      exact ho3 V (.inr ⟨f, rfl⟩) z1 px z2 px (by omega) rfl z3 z4 z5 z6 hlen z7
end
end Go.Proofs.YthaggkmammfpbaaGreatDoor.Pa

namespace Go.Proofs.YthaggkmammfpbaaGreatDoor.Pa
open Go.RowKit Go.Maps Vs

structure Pq (w : World) (b : Nat) (p : Bur.Sp) : Prop where
  c0 : w.cell? ⟨b, 0, none⟩ = some (.int .i64 p.1)
  c1 : w.cell? ⟨b, 1, none⟩ = some (.int .i64 p.2)
theorem Pq.lt {w : World} {b : Nat} {p : Bur.Sp} (h : Pq w b p) : b < w.heap.size := World.block_lt_of_cell? _ _ h.c0
theorem Pq.but {E : Nat → Prop} {w w' : World} {b : Nat} {p : Bur.Sp} (h : Pq w b p) (hb : But E w w') (hE : ¬ E b) : Pq w' b p := ⟨(hb.cell (p := ⟨b, 0, none⟩) h.lt hE).trans h.c0, (hb.cell (p := ⟨b, 1, none⟩) h.lt hE).trans h.c1⟩
theorem Pq.step {w w' : World} {b : Nat} {p : Bur.Sp} (h : Pq w b p) (hb : Below w.heap.size w w') : Pq w' b p := h.but (E := fun _ => False) (.below hb) id
theorem et_of {w w' : World} (h : ErrType w) (hb : Below w.heap.size w w') : ErrType w' := (hb.cell (p := ⟨0, 0, none⟩) (World.block_lt_of_cell? _ _ h)).trans h
structure Bz (T : Td) (w : World) (K : Nat → Prop) (wx : World) (H bP : Nat) (p : Bur.Sp) (q : Option Addr) (W0 : List Pr) (k : Nat) (d : Dk) (o : Ox) : Prop where
  h : H1 T w K wx H d [(zz, o.id)]
  sg : Sg k d o
  kb : k ≤ 170
  kp : K bP
  pq : Pq wx bP p
  pw : PrIn K wx q W0
  wl : W0.length ≤ 1000000
structure Bv (vs : List Ver) (o : Ox) (p : Bur.Sp) (W0 : List Pr) : Prop where
  f0 : Bur.fault p.1 p.2 = 0
  n1 : (seeO vs o.sees o.own (kN nx)).isSome = true
  p1 : ∃ v, seeO vs o.sees o.own (kP nx p) = some v
  all : rises W0 ∧ ∀ x, x ∈ W0 ↔ (if x.1 = kP nx p then none else seeO vs o.sees o.own x.1) = some x.2
theorem z_id (i : Int) : sId [(zz, i)] zz = some i := if_pos rfl
section
variable {T : Td} {K : Nat → Prop} {H bP k : Nat} {p : Bur.Sp} {q : Option Addr} {W0 : List Pr} {d : Dk} {o : Ox} {w wx : World} {a : Int} {cq : Nat}
theorem Bz.ask (V : DFace T) (z : Bz T w K wx H bP p q W0 k d o) (c : Cl) (hk : k ≤ 169) :
    Calls Tryz.prog 39 #[.pointer (some ⟨H, 0, none⟩), .string zz, clV c] wx fun e w' => ∃ pu cu, e = .returned (.tuple #[anV (loR (doP c) d.vs o).1 (.slice pu (loR (doP c) d.vs o).1.l.length cu), ev (loR (doP c) d.vs o).2.1]) ∧ ∃ d', Bz T w K w' H bP p q W0 (k + 1) d' (loR (doP c) d.vs o).2.2 ∧ d'.vs = d.vs := by
  obtain ⟨r1, r2, r3, r4, r5, r6⟩ := z.sg.ask c
  refine (z.h.ask V zz c z.sg.dp (by omega) (by decide)).mono ?_
  rintro e w' ⟨u, rfl, row, h1, bt⟩
  have e1 : haA d [(zz, o.id)] zz c = (loR (doP c) d.vs o).1 := by unfold haA; rw [z_id]; exact r1
  have e2 : haF d [(zz, o.id)] zz c = (loR (doP c) d.vs o).2.1 := by unfold haF; rw [z_id]; exact r2
  have e3 : haD d [(zz, o.id)] zz c = runD (doP c) d o.id := by unfold haD; rw [z_id]
  rw [e1] at row
  rw [e3] at h1
  obtain ⟨pu, cu, rfl⟩ := own_form row
  refine ⟨pu, cu, by rw [e1, e2], _, ⟨?_, r3, by omega, z.kp, z.pq.but bt (fun g => g z.kp), z.pw.but bt (fun j _ hj g => g hj), z.wl⟩, r5⟩
  rw [r4]
  exact h1.mono (fun j hj => .inl hj) z.h.old
theorem Bz.step (V : DFace T) {w' : World} (z : Bz T w K wx H bP p q W0 k d o) (hb : Below wx.heap.size wx w') : Bz T w K w' H bP p q W0 k d o := ⟨z.h.same V hb, z.sg, z.kb, z.kp, z.pq.step hb, z.pw.step hb, z.wl⟩
set_option maxRecDepth 100000 in
set_option maxHeartbeats 4000000 in
theorem pb4 (V : DFace T) {c0 c1 c3 c4 c6 c7 c8 c10 c11 c12 c13 c14 c15 c16 c17 c18 c20 c21 c22 c23 c24 c25 c26 c27 c28 c29 c30 c31 c32 c33 c34 c35 c36 c37 c38 c39 c40 c41 c42 c43 c44 c45 c46 c47 c48 c49 c50 c51 c52 c53 c54 c55 c56 c57 c58 c59 c60 c61 c62 c63 c64 c65 c66 c67 c68 c69 c70 c71 c72 c73 c74 c75 c76 c77 c78 c79 c80 c81 c82 c83 c84 c85 c86 c87 c88 c89 c90 c91 c92 c93 c94 c95 c96 c97 c98 c99 c100 c101 c102 c103 c104 c105 c106 c107 c108 c109 c110 c111 c112 c113 c114 c115 c116 c117 c118 c119 c120 c121 c122 c123 c124 c125 c126 c127 c128 c129 c130 c131 c132 c133 c134 c135 c136 c137 c138 c139 c140 c141 c142 c143 c144 c145 c146 c147 c148 c149 c150 c151 c152 c153 c154 c155 c156 : Value}
    (z : Bz T w K wx H bP p q W0 k d o) (hk : k ≤ 160) (bv : Bv d.vs o p W0) (ha : o.asked < 60) (hl : o.own.length < 8) (et : ErrType w) :
    Code.wp Tryz.prog (dropSeq 16 (Tryz.f6.body.getD .skip)) (bodyPost Tryz.prog Tryz.f6 fun e w' => e = .returned (.bool true) ∧ Below w.heap.size w w') ⟨#[c0, c1, .int .i64 a, c3, c4, .pointer (some ⟨bP, 0, none⟩), c6, c7, c8, .pointer (some ⟨H, 0, none⟩), c10, c11, c12, c13, c14, c15, c16, c17, c18, .slice q W0.length cq, c20, c21, c22, c23, c24, c25, c26, c27, c28, c29, c30, c31, c32, c33, c34, c35, c36, c37, c38, c39, c40, c41, c42, c43, c44, c45, c46, c47, c48, c49, c50, c51, c52, c53, c54, c55, c56, c57, c58, c59, c60, c61, c62, c63, c64, c65, c66, c67, c68, c69, c70, c71, c72, c73, c74, c75, c76, c77, c78, c79, c80, c81, c82, c83, c84, c85, c86, c87, c88, c89, c90, c91, c92, c93, c94, c95, c96, c97, c98, c99, c100, c101, c102, c103, c104, c105, c106, c107, c108, c109, c110, c111, c112, c113, c114, c115, c116, c117, c118, c119, c120, c121, c122, c123, c124, c125, c126, c127, c128, c129, c130, c131, c132, c133, c134, c135, c136, c137, c138, c139, c140, c141, c142, c143, c144, c145, c146, c147, c148, c149, c150, c151, c152, c153, c154, c155, c156], []⟩ wx := by
  conv => arg 2; whnf
  obtain ⟨c0, c1⟩ := id z.pq
  obtain ⟨v, hv⟩ := bv.p1
  obtain ⟨t1, t2⟩ := lo_tak (cTak p) rfl (by rw [cl_tak]; exact bv.f0) d.vs o (by omega) (by omega) bv.n1 hv
  have P1 := z.ask V (cTak p) (by omega)
  have OWN := z.sg.ris
  obtain ⟨R, hR⟩ : ∃ R, R = loR (doP (cTak p)) d.vs o := ⟨_, rfl⟩
  rw [← hR] at t1 t2 P1
  obtain ⟨ra, rf, o'⟩ := R
  simp only at t1 t2 P1
  clear hR
  rcases t1 with h7 | ⟨h0, how⟩
  · rw [h7, show ev 7 = errN 7 from rfl] at P1
    go_wp2_with fail
    refine P1.mono ?_
    rintro e w1 ⟨pu, cu, rfl, d', z1, _⟩
    have P2 := error_hit 7 7 w1 (et_of et z1.h.bl)
    have bl := z1.h.bl
    clear P1 z1 z c0 c1
    go_wp2_with fail
    refine P2.mono ?_
    rintro e w2 ⟨rfl, b2⟩
    go_wp2_with fail
    go_ret
    exact ⟨rfl, below_via bl b2⟩
  · rw [h0, ev_0] at P1
    go_wp2_with fail
    refine P1.mono ?_
    rintro e w1 ⟨pu, cu, rfl, d', z1, hvs⟩
    clear P1 c0 c1
    obtain ⟨m1, m2, m3⟩ := z1.sg.cm (by omega)
    have e1 : hcF d' [(zz, o'.id)] zz = 0 := by unfold hcF; rw [z_id]; exact m1
    have e3 : hcD d' [(zz, o'.id)] zz = cmD d' o'.id := by unfold hcD; rw [z_id]
    have P2 := z1.h.close V zz z1.sg.dp (by omega) (by decide)
    rw [e1, e3, ev_0] at P2
    have he : allP (cmD d' o'.id) = W0 := by
      rw [allP_at]
      obtain ⟨h1, h2⟩ := allAt_is m2.dp.ok.tb (cmD d' o'.id).last
      refine rises_uniq h1 bv.all.1 (fun x => ?_)
      rw [h2, m3, how, t2.se, hvs, see_ins OWN, bv.all.2]
      rfl
    generalize hcN d' [(zz, o'.id)] zz = nn at P2
    generalize cmD d' o'.id = d3 at P2 he m2
    clear m1 m3 e1 e3
    go_wp2_with fail
    refine P2.mono ?_
    rintro e w2 ⟨rfl, h2, bt2⟩
    have P3 := h2.all V m2.dp (by omega)
    have pw2 := z1.pw.but bt2 (fun j _ hj g => g hj)
    have bl := h2.bl
    have wl := z.wl
    clear P2 z1 z
    go_wp2_with fail
    refine P3.mono ?_
    rintro e w3 ⟨q3, cq3, rfl, hc3, pr3, b3⟩
    have P4 := samePairs (allP d3) W0 q3 q cq3 cq w3 (by rw [he]; exact wl) pr3.at (pw2.step b3).at
    rw [decide_eq_true he] at P4
    have HE : Hid _ := he
    clear P3 he
    go_wp2_with fail
    refine P4.mono ?_
    rintro e w4 ⟨rfl, b4⟩
    clear P4
    go_wp2_with fail
    go_ret
    exact ⟨rfl, below_via (below_via bl b3) b4⟩
end
end Go.Proofs.YthaggkmammfpbaaGreatDoor.Pa

namespace Go.Proofs.YthaggkmammfpbaaGreatDoor.Pa
open Go.RowKit Go.Maps Vs

section
variable {T : Td} {K : Nat → Prop} {H bP k : Nat} {p : Bur.Sp} {q : Option Addr} {W0 : List Pr} {d : Dk} {o : Ox} {w wx : World} {a : Int} {cq : Nat}
def Bs (T : Td) (w : World) (K : Nat → Prop) (wx : World) (H bP : Nat) (p : Bur.Sp) (q : Option Addr) (W0 : List Pr) (n m : Nat) : Prop := ∃ k d o, Bz T w K wx H bP p q W0 k d o ∧ k ≤ n ∧ Bv d.vs o p W0 ∧ o.asked < m ∧ o.own.length < 8
theorem Bv.same {vs : List Ver} {o o' : Ox} (h : Bv vs o p W0) (e : ∀ key, seeO vs o'.sees o'.own key = seeO vs o.sees o.own key) : Bv vs o' p W0 := ⟨h.f0, by rw [e]; exact h.n1, by rw [e]; exact h.p1, h.all.1, fun x => by rw [h.all.2, e]⟩
set_option maxRecDepth 100000 in
set_option maxHeartbeats 4000000 in
theorem pb3 (V : DFace T) {c0 c1 c3 c4 c6 c7 c8 c10 c11 c12 c13 c14 c15 c16 c17 c18 c20 c21 c22 c23 c24 c25 c26 c27 c28 c29 c30 c31 c32 c33 c34 c35 c36 c37 c38 c39 c40 c41 c42 c43 c44 c45 c46 c47 c48 c49 c50 c51 c52 c53 c54 c55 c56 c57 c58 c59 c60 c61 c62 c63 c64 c65 c66 c67 c68 c69 c70 c71 c72 c73 c74 c75 c76 c77 c78 c79 c80 c81 c82 c83 c84 c85 c86 c87 c88 c89 c90 c91 c92 c93 c94 c95 c96 c97 c98 c99 c100 c101 c102 c103 c104 c105 c106 c107 c108 c109 c110 c111 c112 c113 c114 c115 c116 c117 c118 c119 c120 c121 c122 c123 c124 c125 c126 c127 c128 c129 c130 c131 c132 c133 c134 c135 c136 c137 c138 c139 c140 c141 c142 c143 c144 c145 c146 c147 c148 c149 c150 c151 c152 c153 c154 c155 c156 : Value}
    (z : Bz T w K wx H bP p q W0 k d o) (hk : k ≤ 150) (bv : Bv d.vs o p W0) (ha : o.asked < 20) (hl : o.own.length < 3) (et : ErrType w) :
    Code.wp Tryz.prog (dropSeq 14 (Tryz.f6.body.getD .skip)) (bodyPost Tryz.prog Tryz.f6 fun e w' => e = .returned (.bool true) ∧ Below w.heap.size w w') ⟨#[c0, c1, .int .i64 a, c3, c4, .pointer (some ⟨bP, 0, none⟩), c6, c7, c8, .pointer (some ⟨H, 0, none⟩), c10, c11, c12, c13, c14, c15, c16, c17, c18, .slice q W0.length cq, c20, c21, c22, c23, c24, c25, c26, c27, c28, c29, c30, c31, c32, c33, c34, c35, c36, c37, c38, c39, c40, c41, c42, c43, c44, c45, c46, c47, c48, c49, c50, c51, c52, c53, c54, c55, c56, c57, c58, c59, c60, c61, c62, c63, c64, c65, c66, c67, c68, c69, c70, c71, c72, c73, c74, c75, c76, c77, c78, c79, c80, c81, c82, c83, c84, c85, c86, c87, c88, c89, c90, c91, c92, c93, c94, c95, c96, c97, c98, c99, c100, c101, c102, c103, c104, c105, c106, c107, c108, c109, c110, c111, c112, c113, c114, c115, c116, c117, c118, c119, c120, c121, c122, c123, c124, c125, c126, c127, c128, c129, c130, c131, c132, c133, c134, c135, c136, c137, c138, c139, c140, c141, c142, c143, c144, c145, c146, c147, c148, c149, c150, c151, c152, c153, c154, c155, c156], []⟩ wx := by
  conv => arg 2; whnf
  have OWN := z.sg.ris
  have P1 := z.ask V (cPlc a) (by omega)
  have t := lo_plc (cPlc a) rfl (show nw.size ≤ 12 by decide) d.vs o (by omega) (by omega)
  obtain ⟨R, hR⟩ : ∃ R, R = loR (doP (cPlc a)) d.vs o := ⟨_, rfl⟩
  rw [← hR] at t P1
  obtain ⟨ra, rf, o'⟩ := R
  simp only at t P1
  clear hR
  rcases t with ⟨hne, how, bt⟩ | ⟨hc, _, hn, h0, how, bt⟩
  · rw [ev_ne hne] at P1
    go_wp2_with fail
    refine P1.mono ?_
    rintro e w1 ⟨pu, cu, rfl, d', z1, hvs⟩
    have bv1 : Bv d'.vs o' p W0 := by rw [hvs]; exact bv.same (fun key => by rw [how, bt.se])
    have REL : Hid (Bs T w K w1 H bP p q W0 160 60) := ⟨_, _, _, z1, by omega, bv1, by have := bt.ask; omega, by have := bt.len; omega⟩
    clear P1 z1 z hne how bt bv1 bv
    go_upto_if 107 with fail
    go_cut [21, 22] (fun _ _ wy => Hid (Bs T w K wy H bP p q W0 160 60))
    case first =>
      go_wp2_with fail
      go_meet
      case rel => exact REL
    case rest =>
      obtain ⟨k1, d1, o1, y1, y2, y3, y4, y5⟩ := hcut.out
      refine ‹∀ (a : Act) (w : World), Code.wp _ _ _ a w → _› _ _ ?_
      exact pb4 V y1 y2 y3 y4 y5 et
  · rw [h0, ev_0] at P1
    go_wp2_with fail
    refine P1.mono ?_
    rintro e w1 ⟨pu, cu, rfl, d', z1, hvs⟩
    clear P1
    have hf : Bur.fault a 32 = 0 := by rw [← cl_plc]; exact hc
    have s0 : ∀ key, seeO d.vs o'.sees o'.own key = if key = kA nx a then some nw else seeO d.vs o.sees o.own key := fun key => by
      rw [how, bt.se, see_ins OWN]
      rfl
    have s1 : ∀ key, seeO d'.vs o'.sees o'.own key = if key = kA nx a then some nw else seeO d.vs o.sees o.own key := fun key => by
      rw [hvs]
      exact s0 key
    have n1 : (seeO d'.vs o'.sees o'.own (kN nx)).isSome = true := by rw [s1, if_neg (na_ne nx a)]; exact bv.n1
    have a1 : seeO d'.vs o'.sees o'.own (kA nx a) = some nw := by rw [s1, if_pos rfl]
    have OWN1 := z1.sg.ris
    have P2 := z1.ask V (cWho a) (by omega)
    have t2 := lo_who (cWho a) rfl (by rw [cl_who]; exact hf) d'.vs o' (by have := bt.ask; omega) n1 a1
    obtain ⟨R2, hR2⟩ : ∃ R2, R2 = loR (doP (cWho a)) d'.vs o' := ⟨_, rfl⟩
    rw [← hR2] at t2 P2
    obtain ⟨⟨rp, rad, rw2, rl⟩, rf2, o2⟩ := R2
    simp only at t2 P2
    clear hR2
    obtain ⟨g0, gw, gown, gbt⟩ := t2
    rw [g0, ev_0] at P2
    have hlen1 := bt.len
    have hask1 := bt.ask
    have hlen2 := gbt.len
    have hask2 := gbt.ask
    have owl : rw2 = ⟨#[110, 101, 119]⟩ := gw
    subst owl
    rw [gown] at hlen2
    have FIN : ∀ {wy : World} {d2 : Dk}, Bz T w K wy H bP p q W0 (k + 1 + 1) d2 o2 → d2.vs = d'.vs → Calls Tryz.prog 39 #[.pointer (some ⟨H, 0, none⟩), .string zz, clV (cLve a)] wy fun e w' => ∃ (ra3 : An) (pu : Option Addr) (cu : Nat), e = .returned (.tuple #[anV ra3 (.slice pu ra3.l.length cu), .nilIface]) ∧ Bs T w K w' H bP p q W0 160 60 := by
      intro wy d2 y e2
      have t3 := lo_lve (cLve a) rfl (by rw [cl_lve]; exact hf) d2.vs o2 (by omega) (by rw [gown]; omega) (v := nw) (by rw [gown, gbt.se, e2]; exact n1) (by rw [gown, gbt.se, e2]; exact a1)
      obtain ⟨l0, lown, lbt⟩ := t3
      refine (y.ask V (cLve a) (by omega)).mono ?_
      rintro e w' ⟨pu, cu, rfl, d3, y3, hv3⟩
      rw [l0, ev_0]
      refine ⟨_, pu, cu, rfl, _, _, _, y3, by omega, ?_, by have := lbt.ask; omega, by have := lbt.len; rw [gown] at this; omega⟩
      have := bv.same (o' := (loR (doP (cLve a)) d2.vs o2).2.2) (vs := d.vs) (fun key => by
        rw [lown, lbt.se, gown, gbt.se, see_ins OWN1]
        show (if key = kA nx a then none else seeO d.vs o'.sees o'.own key) = _
        by_cases ek : key = kA nx a
        · rw [if_pos ek, ek]; exact hn.symm
        · rw [if_neg ek, s0, if_neg ek])
      have e4 : d3.vs = d.vs := hv3.trans (e2.trans hvs)
      rw [e4]
      exact this
    have FH : Hid _ := @FIN
    clear FIN n1 a1 s1 s0 bv how bt gw gown gbt OWN OWN1 hn hc h0 g0
    go_upto_if 107 with fail
    go_cut [21, 22] (fun _ _ wy => Hid (Bs T w K wy H bP p q W0 160 60))
    case rest =>
      obtain ⟨k1, d1, o1, y1, y2, y3, y4, y5⟩ := hcut.out
      refine ‹∀ (a : Act) (w : World), Code.wp _ _ _ a w → _› _ _ ?_
      exact pb4 V y1 y2 y3 y4 y5 et
    case first =>
      go_wp2_with fail
      refine P2.mono ?_
      rintro e w2 ⟨pv, cv, rfl, d2, z2, hvs2⟩
      have z3 := z2.step V (below_al (below_self w2) (.cells #[.int .i64 rp.1, .int .i64 rp.2, .int .i64 rad, .string ⟨#[110, 101, 119]⟩, .slice pv rl.length cv] 48))
      have P3 := FH.out z3 hvs2
      clear P2 z2 z z1
      go_wp2_with fail
      refine P3.mono ?_
      rintro e w3 ⟨ra3, pw, cw, rfl, bs⟩
      have BS : Hid _ := bs
      clear P3 bs z3
      go_wp2_with fail
      go_meet
      case rel => exact BS
end
end Go.Proofs.YthaggkmammfpbaaGreatDoor.Pa

