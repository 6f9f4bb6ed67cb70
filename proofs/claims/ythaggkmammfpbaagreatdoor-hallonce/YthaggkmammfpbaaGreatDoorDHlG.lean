/- Package hall: a session is looked for, ended, opened, closed; it quits. -/
import Derived.Test.YthaggkmammfpbaaGreatDoorDHlMath
import Derived.Test.YthaggkmammfpbaaGreatDoorDVsBase
import Derived.Deep.CutBlock
import Derived.BigQuiet
namespace Go.Proofs.YthaggkmammfpbaaGreatDoor.Pa
open Go.RowKit Go.Maps Go.WideShapes Go.ChangeMaps Vs

theorem zeroI (w : World) : (zeroValue 3).run Tryz.prog w = .ok (.int .i64 0) w := by kernel_rfl
/-- What find tells of a session. -/
def sF (S : Ses) (k : ByteArray) : Int := if (sId S k).isSome = true then 0 else 4
def sN (S : Ses) (k : ByteArray) : Int := (sId S k).getD 0
section
variable {T : Td} {w w' : World} {G F : Nat → Prop} {H B M n : Nat} {D : DataW Value} {d : Dk} {S : Ses}
theorem hlFind (h : HlX T w G H d S F B M n D) (k : ByteArray) (hk : k.size ≤ maxLen) :
    Calls Tryz.prog 98 #[.pointer (some ⟨H, 0, none⟩), .string k] w fun e w' => e = .returned (.tuple #[.int .i64 (sN S k), ev (sF S k)]) ∧ w' = w := by
  have c1 := h.hh.c1
  have l1 := run_lookS 178 3 true Tryz.underlying178 (zeroI w) h.mp k hk
  rw [h.sr k] at l1
  unfold sN sF
  cases e : sId S k with
  | none =>
    rw [e] at l1
    simp only [if_true, Option.map_none, Option.getD_none, Option.isSome_none] at l1
    rw [if_neg (by simp), show ev 4 = errN 4 from rfl]
    clear h
    go_enter Tryz.func98, Tryz.ntmps98
    go_wp2
    go_ret2
    exact ⟨rfl, rfl⟩
  | some i =>
    rw [e] at l1
    simp only [if_true, Option.map_some, Option.getD_some, Option.isSome_some] at l1
    rw [if_pos (by simp), ev_0]
    clear h
    go_enter Tryz.func98, Tryz.ntmps98
    go_wp2
    go_ret2
    exact ⟨rfl, rfl⟩
theorem sesDel {D : DataW Value} {S : Ses} (h : SesR D S) (k : ByteArray) : SesR (D.del (kS k)) (sDel S k) := fun j => by
  rw [sId_del]
  by_cases e : j = k
  · rw [if_pos e, e, look_del]; rfl
  · rw [if_neg e, look_del_other (kS_ne e)]; exact h j
theorem hlEnd (V : DFace T) (h : HlX T w G H d S F B M n D) (k : ByteArray) (hk : k.size ≤ maxLen) :
    Calls Tryz.prog 91 #[.pointer (some ⟨H, 0, none⟩), .string k] w fun e w' => e = .returned (.tuple #[.int .i64 (sN S k), ev (sF S k)]) ∧ Hp T G H w w' d (sDel S k) := by
  have c1 := h.hh.c1
  have K := hlFind h k hk
  obtain ⟨w1, hrun, ho1, hg1, hs1⟩ := run_delS 178 3 Tryz.underlying178 h.mp k hk
  have P : Hid (Hp T G H w w1 d (sDel S k)) := h.ses V (grown_butM hg1) ho1 (sesDel h.sr k) (sDel_nd h.nd)
  clear ho1 hg1 h
  obtain ⟨v, hv, hv1⟩ : ∃ v : Value, Hid (v = ev (sF S k)) ∧ (v = .nilIface ∨ v = errN 4) := ⟨_, rfl, by unfold sF; split; exact .inl ev_0; exact .inr rfl⟩
  rw [← hv.out] at K ⊢
  clear hv
  rcases hv1 with rfl | rfl
  all_goals (
    go_enter Tryz.func91, Tryz.ntmps91
    go_wp2_with (go_at_call 98; refine K.mono ?_; rintro e w2 ⟨rfl, hw⟩; have := hw.symm; subst this)
    go_ret2
    exact ⟨rfl, P.out⟩)
/-- What Open tells, and leaves. -/
def hoF (d : Dk) (S : Ses) (k : ByteArray) : Int := if Bur.isN k.data.toList = true then (if (sId S k).isSome = true then 6 else bgF d) else 5
def hoD (d : Dk) (S : Ses) (k : ByteArray) : Dk := if Bur.isN k.data.toList = true ∧ sId S k = none then bgD d else d
def hoS (d : Dk) (S : Ses) (k : ByteArray) : Ses := if hoF d S k = 0 then S ++ [(k, bgN d)] else S
/-- What Close and Quit tell, and leave. -/
def hcF (d : Dk) (S : Ses) (k : ByteArray) : Int := match sId S k with
  | none => 4
  | some i => cmF d i
def hcN (d : Dk) (S : Ses) (k : ByteArray) : Int := match sId S k with
  | none => 0
  | some i => cmN d i
def hcD (d : Dk) (S : Ses) (k : ByteArray) : Dk := match sId S k with
  | none => d
  | some i => cmD d i
def hqF (d : Dk) (S : Ses) (k : ByteArray) : Int := match sId S k with
  | none => 4
  | some i => abF d i
def hqD (d : Dk) (S : Ses) (k : ByteArray) : Dk := match sId S k with
  | none => d
  | some i => opDel d i
theorem hallClose (V : DFace T) (h : Hl T w G H d S) (ok : OkD d) (sm : Sm d) (sz : Spz d) (k : ByteArray) (hk : k.size ≤ maxLen) :
    Calls Tryz.prog 28 #[.pointer (some ⟨H, 0, none⟩), .string k] w fun e w' => e = .returned (.tuple #[.int .i64 (hcN d S k), ev (hcF d S k)]) ∧ Hp T G H w w' (hcD d S k) (sDel S k) := by
  obtain ⟨F, B, M, n, D, hx⟩ := h
  have K := hlEnd V hx k hk
  unfold hcN hcF hcD
  unfold sN sF at K
  cases e : sId S k with
  | none =>
    rw [e] at K
    simp only [Option.getD_none, Option.isSome_none] at K
    rw [if_neg (by simp), show ev 4 = errN 4 from rfl] at K
    simp only
    rw [show ev 4 = errN 4 from rfl]
    go_enter Tryz.func28, Tryz.ntmps28
    go_wp2_with (go_at_call 91; refine K.mono ?_; clear K; rintro e w1 ⟨rfl, hp⟩)
    go_ret2
    exact ⟨rfl, hp⟩
  | some i =>
    rw [e] at K
    simp only [Option.getD_some, Option.isSome_some] at K
    rw [if_pos (by simp), ev_0] at K
    simp only
    obtain ⟨v, hv, hv1⟩ : ∃ v : Value, Hid (v = ev (cmF d i)) ∧ (v = .nilIface ∨ ∃ f, v = errN f) := ⟨_, rfl, by by_cases q : cmF d i = 0; exact .inl (by rw [q, ev_0]); exact .inr ⟨_, ev_ne q⟩⟩
    rw [← hv.out]
    have K2 : ∀ {w1 : World} {F1 : Nat → Prop} {B1 : Nat}, Ds T w1 F1 B1 d → Calls Tryz.prog 15 #[.pointer (some ⟨B1, 0, none⟩), .int .i64 i] w1 fun e w' => e = .returned (.tuple #[.int .i64 (cmN d i), v]) ∧ Dj T F1 w1 w' B1 (cmD d i) := fun hd => by
      rw [hv.out]
      exact (V.commit i hd.t ok sm hd.lt sz).mono (fun e w' q => ⟨q.1, Dj.of hd q.2.1 (fun j hj => hj) q.2.2⟩)
    clear hv ok sm sz
    generalize cmN d i = nn at K2 ⊢
    generalize cmD d i = d2 at K2 ⊢
    rcases hv1 with rfl | ⟨f, rfl⟩
    all_goals (
      go_enter Tryz.func28, Tryz.ntmps28
      go_wp2_with (first
        | (go_at_call 91; refine K.mono ?_; clear K; rintro e w1 ⟨rfl, G1, ⟨F1, B1, M1, n1, D1, hx1⟩, hn1, hb1⟩; have c0 := hx1.hh.c0; have KC := K2 hx1.ds)
        | (go_at_call 15; refine KC.mono ?_; clear KC; rintro e w2 ⟨rfl, dj⟩))
      go_ret2
      obtain ⟨F2, q1, q2⟩ := dj.ex
      exact ⟨rfl, Hp.then hn1 hb1 (hx1.desk q1 q2 dj.bt)⟩)
theorem hallQuit (V : DFace T) (h : Hl T w G H d S) (ok : OkD d) (sm : Sm d) (k : ByteArray) (hk : k.size ≤ maxLen) :
    Calls Tryz.prog 30 #[.pointer (some ⟨H, 0, none⟩), .string k] w fun e w' => e = .returned (ev (hqF d S k)) ∧ Hp T G H w w' (hqD d S k) (sDel S k) := by
  obtain ⟨F, B, M, n, D, hx⟩ := h
  have K := hlEnd V hx k hk
  unfold hqF hqD
  unfold sN sF at K
  cases e : sId S k with
  | none =>
    rw [e] at K
    simp only [Option.getD_none, Option.isSome_none] at K
    rw [if_neg (by simp), show ev 4 = errN 4 from rfl] at K
    simp only
    rw [show ev 4 = errN 4 from rfl]
    go_enter Tryz.func30, Tryz.ntmps30
    go_wp2_with (go_at_call 91; refine K.mono ?_; clear K; rintro e w1 ⟨rfl, hp⟩)
    go_ret
    exact ⟨rfl, hp⟩
  | some i =>
    rw [e] at K
    simp only [Option.getD_some, Option.isSome_some] at K
    rw [if_pos (by simp), ev_0] at K
    simp only
    obtain ⟨v, hv, hv1⟩ : ∃ v : Value, Hid (v = ev (abF d i)) ∧ (v = .nilIface ∨ ∃ f, v = errN f) := ⟨_, rfl, by by_cases q : abF d i = 0; exact .inl (by rw [q, ev_0]); exact .inr ⟨_, ev_ne q⟩⟩
    rw [← hv.out]
    have K2 : ∀ {w1 : World} {F1 : Nat → Prop} {B1 : Nat}, Ds T w1 F1 B1 d → Calls Tryz.prog 17 #[.pointer (some ⟨B1, 0, none⟩), .int .i64 i] w1 fun e w' => e = .returned v ∧ Dj T F1 w1 w' B1 (opDel d i) := fun hd => by
      rw [hv.out]
      exact (V.abort i hd.t ok sm hd.lt).mono (fun e w' q => ⟨q.1, Dj.of hd q.2.1 (fun j hj => hj) q.2.2⟩)
    clear hv ok sm
    generalize opDel d i = d2 at K2 ⊢
    rcases hv1 with rfl | ⟨f, rfl⟩
    all_goals (
      go_enter Tryz.func30, Tryz.ntmps30
      go_wp2_with (first
        | (go_at_call 91; refine K.mono ?_; clear K; rintro e w1 ⟨rfl, G1, ⟨F1, B1, M1, n1, D1, hx1⟩, hn1, hb1⟩; have c0 := hx1.hh.c0; have KC := K2 hx1.ds)
        | (go_at_call 17; refine KC.mono ?_; clear KC; rintro e w2 ⟨rfl, dj⟩))
      go_ret
      obtain ⟨F2, q1, q2⟩ := dj.ex
      exact ⟨rfl, Hp.then hn1 hb1 (hx1.desk q1 q2 dj.bt)⟩)
theorem sesAdd {D : DataW Value} {S : Ses} (hD : IsMap D) (h : SesR D S) {k : ByteArray} (hk : sId S k = none) (i : Int) : SesR (D.put (kS k) (.held (.int .i64 i))) (S ++ [(k, i)]) := fun j => by
  rw [sId_add hk]
  by_cases e : j = k
  · rw [if_pos e, e, look_put hD (kS_key k)]; rfl
  · rw [if_neg e, look_put_other (kS_ne e)]; exact h j
theorem HlX.tight (h : HlX T w G H d S F B M n D) : w.ownsMap Tryz.prog 9 anyE M S.length D := by
  have e : Maps.size D = (S.map Prod.fst).length := size_strs h.mp h.nd (fun x => by rw [h.sr x, Option.isSome_map]; exact sId_some.symm)
  have := own_tight h.mp
  rw [e, List.length_map] at this
  exact this
set_option maxRecDepth 100000 in
set_option maxHeartbeats 2000000 in
theorem hallOpen (V : DFace T) (h : Hl T w G H d S) (ok : OkD d) (sm : Sm d) (k : ByteArray) (hk : k.size ≤ maxLen) (hS : S.length ≤ 1000) :
    Calls Tryz.prog 26 #[.pointer (some ⟨H, 0, none⟩), .string k] w fun e w' => e = .returned (ev (hoF d S k)) ∧ Hp T G H w w' (hoD d S k) (hoS d S k) := by
  obtain ⟨F, B, M, n, D, hx⟩ := h
  have KN := plName k w
  unfold hoS hoD hoF
  unfold Bur.nmF at KN
  by_cases e : Bur.isN k.data.toList = true
  · rw [if_pos e, ev_0] at KN
    rw [if_pos e]
    have L1 : ∀ {w1 : World}, Below w.heap.size w w1 → _ := fun {w1} hb => run_lookS 178 3 true Tryz.underlying178 (zeroI w1) (hx.step V hb).mp k hk
    rw [hx.sr k] at L1
    cases q : sId S k with
    | some i =>
      rw [q] at L1
      simp only [if_true, Option.map_some, Option.getD_some, Option.isSome_some] at L1
      rw [if_pos (by simp), if_neg (by simp), if_neg (by decide), show ev 6 = errN 6 from rfl]
      go_enter Tryz.func26, Tryz.ntmps26
      go_wp2_with (go_at_call 89; refine KN.mono ?_; clear KN; rintro e w1 ⟨rfl, hb1⟩; have c1 := (hx.step V hb1).hh.c1; have l1 := L1 hb1)
      go_ret
      exact ⟨rfl, Hp.step V (Hp.refl ⟨F, B, M, n, D, hx⟩) hb1⟩
    | none =>
      rw [q] at L1
      simp only [if_true, Option.map_none, Option.getD_none, Option.isSome_none] at L1
      rw [if_neg (by simp), if_pos ⟨e, rfl⟩]
      have K2 : ∀ {w1 : World} {F1 : Nat → Prop} {B1 : Nat}, Ds T w1 F1 B1 d → Calls Tryz.prog 12 #[.pointer (some ⟨B1, 0, none⟩)] w1 fun e w' => e = .returned (.tuple #[.int .i64 (bgN d), ev (bgF d)]) ∧ Dj T F1 w1 w' B1 (bgD d) := fun hd =>
        (V.begin_ hd.t ok sm hd.lt).mono (fun e w' q => ⟨q.1, Dj.of hd q.2.1 (fun j hj => hj) q.2.2⟩)
      have hkey : keyOf Tryz.prog 9 (.string k) = some (kS k) := by simp [keyOf, mapKey, Tryz.underlying9, hk]
      by_cases g : bgF d = 0
      · rw [g, ev_0] at K2
        rw [if_pos g, g, ev_0]
        generalize bgN d = id1 at K2 ⊢
        generalize bgD d = d1 at K2 ⊢
        clear ok sm
        go_enter Tryz.func26, Tryz.ntmps26
        go_wp2_with (first
          | (go_at_call 89; refine KN.mono ?_; clear KN; rintro e w1 ⟨rfl, hb1⟩; have hx1 := hx.step V hb1; have c1 := hx1.hh.c1; have c0 := hx1.hh.c0; have l1 := L1 hb1; have KB := K2 hx1.ds)
          | (go_at_call 12; refine KB.mono ?_; clear KB; rintro e w2 ⟨rfl, dj⟩; obtain ⟨F2, q1, q2⟩ := dj.ex; obtain ⟨G2, ⟨F3, B3, M3, n3, D3, hx2⟩, hn2, hb2⟩ := hx1.desk q1 q2 dj.bt; have m1 := hx2.hh.c1; have ho2 := hx2.tight; obtain ⟨w5, hput, own5, hg5⟩ := ho2.update keyed Tryz.underlying178 (by unfold maxLen; omega) hkey (val := .int .i64 id1) (d := .held (.int .i64 id1)) (ps := []) rfl))
        go_ret
        exact ⟨rfl, Hp.ahead hb1 (Hp.then hn2 hb2 (hx2.ses V (grown_butM hg5) own5 (sesAdd ho2.isMap hx2.sr q _) (sAdd_nd hx2.nd q)))⟩
      · rw [ev_ne g] at K2
        rw [if_neg g, ev_ne g]
        generalize bgN d = id1 at K2 ⊢
        generalize bgD d = d1 at K2 ⊢
        generalize bgF d = f at K2 ⊢
        clear ok sm
        go_enter Tryz.func26, Tryz.ntmps26
        go_wp2_with (first
          | (go_at_call 89; refine KN.mono ?_; clear KN; rintro e w1 ⟨rfl, hb1⟩; have hx1 := hx.step V hb1; have c1 := hx1.hh.c1; have c0 := hx1.hh.c0; have l1 := L1 hb1; have KB := K2 hx1.ds)
          | (go_at_call 12; refine KB.mono ?_; clear KB; rintro e w2 ⟨rfl, dj⟩; obtain ⟨F2, q1, q2⟩ := dj.ex))
        go_ret
        exact ⟨rfl, Hp.ahead hb1 (hx1.desk q1 q2 dj.bt)⟩
  · rw [if_neg e, show ev 5 = errN 5 from rfl] at KN
    rw [if_neg e, if_neg (fun q => e q.1), if_neg (by decide), show ev 5 = errN 5 from rfl]
    go_enter Tryz.func26, Tryz.ntmps26
    go_wp2_with (go_at_call 89; refine KN.mono ?_; clear KN; rintro e w1 ⟨rfl, hb1⟩)
    go_ret
    exact ⟨rfl, Hp.step V (Hp.refl ⟨F, B, M, n, D, hx⟩) hb1⟩
/-- All that is committed. -/
theorem hallAll (V : DFace T) (h : Hl T w G H d S) (ok : OkD d) (sm : Sm d) :
    Calls Tryz.prog 40 #[.pointer (some ⟨H, 0, none⟩)] w fun e w' => ∃ (q : Option Addr) (cq : Nat), e = .returned (.slice q (allP d).length cq) ∧ (allP d).length ≤ cq ∧ PrIn (fun j => w.heap.size ≤ j) w' q (allP d) ∧ Below w.heap.size w w' := by
  obtain ⟨F, B, M, n, D, hx⟩ := h
  have c0 := hx.hh.c0
  have K := V.all hx.ds.t ok sm
  go_enter Tryz.func40, Tryz.ntmps40
  go_wp2_with (go_at_call 22; refine K.mono ?_; clear K; rintro e w1 ⟨q, cq, rfl, h1, h2, h3⟩)
  go_ret
  exact ⟨q, cq, rfl, h1, h2, h3⟩
end
end Go.Proofs.YthaggkmammfpbaaGreatDoor.Pa

namespace Go.Proofs.YthaggkmammfpbaaGreatDoor.Pa
open Go.RowKit Go.Maps Vs

/-- What Ask tells, and leaves. -/
def haF (d : Dk) (S : Ses) (k : ByteArray) (c : Cl) : Int := match sId S k with
  | none => 4
  | some i => runF (doP c) d i
def haA (d : Dk) (S : Ses) (k : ByteArray) (c : Cl) : An := match sId S k with
  | none => an0
  | some i => runA (doP c) d i
def haD (d : Dk) (S : Ses) (k : ByteArray) (c : Cl) : Dk := match sId S k with
  | none => d
  | some i => runD (doP c) d i
section
variable {T : Td} {w w' : World} {G F : Nat → Prop} {H B M n : Nat} {D : DataW Value} {d : Dk} {S : Ses}
set_option maxRecDepth 100000 in
set_option maxHeartbeats 8000000 in
theorem hallAsk (V : DFace T) (h : Hl T w G H d S) (ok : OkD d) (sm : Sm d) (k : ByteArray) (hk : k.size ≤ maxLen) (c : Cl) :
    Calls Tryz.prog 39 #[.pointer (some ⟨H, 0, none⟩), .string k, clV c] w fun e w' => ∃ u, e = .returned (.tuple #[anV (haA d S k c) u, ev (haF d S k c)]) ∧ w'.ownsRow w.heap.size 31 2 u (haA d S k c).l.length (pfV (haA d S k c).l) ∧ ∃ G', Hl T w' G' H (haD d S k c) S ∧ (∀ j, G' j → Nw G w w' j) ∧ But G w w' ∧ ∀ j, u.ownBlock = some j → ¬ G' j := by
  obtain ⟨F, B, M, n, D, hx⟩ := h
  obtain ⟨W, hW⟩ : ∃ W, W = (w.alloc (.cells (clA c) 33)).alloc (.cells #[.int .i64 0, .int .i64 0, .int .i64 0, .string ⟨#[]⟩, .slice none 0 0] 48) := ⟨_, rfl⟩
  have bW : Below w.heap.size w W := by rw [hW]; exact below_al (below_al (below_self w) _) _
  obtain ⟨bb, hbb⟩ : ∃ bb, bb = w.heap.size := ⟨_, rfl⟩
  have cb : Cb W bb c := by rw [hW, hbb]; exact (Cb.new w c _).step (below_al (below_self _) _)
  have ab : Ab W (bb + 1) (.int .i64 0) (.int .i64 0) (.int .i64 0) (.string ⟨#[]⟩) (.slice none 0 0) := by
    have := Ab.new (w.alloc (.cells (clA c) 33)) (.int .i64 0) (.int .i64 0) (.int .i64 0) (.string ⟨#[]⟩) (.slice none 0 0) 48
    rw [World.size_alloc] at this
    rw [hW, hbb]; exact this
  have hxW := hx.step V bW
  have KF := hlFind hxW k hk
  have lW : bb + 1 < W.heap.size := ab.lt
  have hlb : ∀ j, F j → j < w.heap.size := hx.ds.lt
  have nb0 : ¬ F bb := fun q => by have := hlb _ q; omega
  have nb1 : ¬ F (bb + 1) := fun q => by have := hlb _ q; omega
  have lH := hx.hh.lt
  have lM := hx.ltM
  unfold haA haF haD
  unfold sN sF at KF
  have FIN : ∀ {d2 : Dk} {F2 : Nat → Prop} {wx w3 wf : World} {u : Value} {m : Nat} {xs : List Value}, Below W.heap.size W wx → Ds T w3 F2 B d2 → (∀ j, F2 j → Nw F wx w3 j) → But F wx w3 → w3.ownsRow wx.heap.size 31 2 u m xs → (∀ j, u.ownBlock = some j → ¬ F2 j) → But (fun j => j = bb + 1) w3 wf → wf.ownsRow w.heap.size 31 2 u m xs ∧ ∃ G', Hl T wf G' H d2 S ∧ (∀ j, G' j → Nw G w wf j) ∧ But G w wf ∧ ∀ j, u.ownBlock = some j → ¬ G' j := by
    intro d2 F2 wx w3 wf u m xs bx h3 hn3 b3 row sep hb
    have sx := bx.size
    have sw := bW.size
    obtain ⟨q1, q2, q3⟩ := do_fin (F := F) (F1 := F) (w := w) (wx := wx) (ab := bb + 1) V hx.ds.en (.below (below_via bW bx)) (fun _ hj => .inl hj) h3 hn3 b3 (by omega) (by omega) nb1 hb
    have row' : wf.ownsRow w.heap.size 31 2 u m xs := ownMono (by omega) (row_but row hb (fun j hj q => by omega))
    obtain ⟨G', g1, g2, g3⟩ := hx.desk q1 q2 q3
    refine ⟨row', fun j => F2 j ∨ j = H ∨ j = M, ?_, ?_, g3, fun j hj q => ?_⟩
    · have nw : ∀ {j}, F2 j → j < w.heap.size → F j := fun hj hl => (q2 _ hj).elim id (fun q => by have := q.1; omega)
      refine ⟨F2, B, M, n, D, q1, hx.hh.but q3 hx.nH, map_but hx.mp q3 hx.nM, hx.sr, fun q => hx.nH (nw q lH), fun q => hx.nM (nw q lM), hx.ne, fun j => Iff.rfl, hx.nd, fun j hj => ?_⟩
      rcases hj with q | q | q
      · exact q1.no j q
      · exact hx.no j ((hx.gs j).2 (.inr (.inl q)))
      · exact hx.no j ((hx.gs j).2 (.inr (.inr q)))
    · intro j hj
      rcases hj with q | q | q
      · exact (q2 j q).imp (fun g => (hx.gs j).2 (.inl g)) id
      · exact .inl ((hx.gs j).2 (.inr (.inl q)))
      · exact .inl ((hx.gs j).2 (.inr (.inr q)))
    · have hge : wx.heap.size ≤ j := (row.lt j hj).1
      rcases q with q | q | q
      · exact sep j hj q
      · omega
      · omega
  have FH : Hid _ := @FIN
  clear FIN
  cases e : sId S k with
  | none =>
    rw [e] at KF
    simp only [Option.getD_none, Option.isSome_none] at KF
    rw [if_neg (by simp), show ev 4 = errN 4 from rfl] at KF
    simp only
    rw [show ev 4 = errN 4 from rfl]
    obtain ⟨a0, a1, a2, a3, a4, af0, af1, af2, af3, af4⟩ := id ab
    have R0 := FH.out (u := .slice none 0 0) (m := 0) (xs := []) (below_self W) hxW.ds (fun j hj => .inl hj) (But.refl _ _) (World.ownsRow_nil _ _ _ _) (fun j hj => by cases hj) (but_5 (bb + 1) (But.refl (fun j => j = bb + 1) W) (.int .i64 0) (.int .i64 0) (.int .i64 0) (.string ⟨#[]⟩) (.slice none 0 0))
    have RH : Hid _ := R0
    clear R0
    subst hbb
    go_enter Tryz.func39, Tryz.ntmps39
    go_wp2_with (go_at_call 98; rw [← hW]; refine KF.mono ?_; clear KF hW; rintro e w1 ⟨rfl, hw⟩; have := hw.symm; subst this)
    exact bodyPost_ret (v := .tuple #[anV an0 (.slice none 0 0), errN 4]) (by simp [results, Tryz.results39, go_sem, an0, (ab.all (.int .i64 0) (.int .i64 0) (.int .i64 0) (.string ⟨#[]⟩) (.slice none 0 0)).c0, (ab.all (.int .i64 0) (.int .i64 0) (.int .i64 0) (.string ⟨#[]⟩) (.slice none 0 0)).c1, (ab.all (.int .i64 0) (.int .i64 0) (.int .i64 0) (.string ⟨#[]⟩) (.slice none 0 0)).c2, (ab.all (.int .i64 0) (.int .i64 0) (.int .i64 0) (.string ⟨#[]⟩) (.slice none 0 0)).c3, (ab.all (.int .i64 0) (.int .i64 0) (.int .i64 0) (.string ⟨#[]⟩) (.slice none 0 0)).c4]; rfl) rfl ⟨_, rfl, RH.out⟩
  | some i =>
    rw [e] at KF
    simp only [Option.getD_some, Option.isSome_some] at KF
    rw [if_pos (by simp), ev_0] at KF
    simp only
    have KD := fun (wx : World) (bx : Below W.heap.size W wx) => plDo V c i (hxW.ds.step V bx) ok sm
    unfold DoPost at KD
    generalize ev (runF (doP c) d i) = vf at KD ⊢
    generalize runA (doP c) d i = a at KD ⊢
    generalize runD (doP c) d i = d2 at KD ⊢
    have hh1 := hxW.hh
    have sx : ∀ {wy : World}, Hh wy H B M → Cb wy bb c → wy.cell? ⟨H, 0, none⟩ = some (.pointer (some ⟨B, 0, none⟩)) ∧ wy.cell? ⟨bb, 0, none⟩ = some (.int .i64 c.what) ∧ wy.cell? ⟨bb, 1, none⟩ = some (.string c.nm) ∧ wy.cell? ⟨bb, 2, none⟩ = some (.int .i64 c.p.1) ∧ wy.cell? ⟨bb, 3, none⟩ = some (.int .i64 c.p.2) ∧ wy.cell? ⟨bb, 4, none⟩ = some (.int .i64 c.len) ∧ wy.cell? ⟨bb, 5, none⟩ = some (.int .i64 c.ad) ∧ wy.cell? ⟨bb, 6, none⟩ = some (.string c.ow) := fun a b => ⟨a.c0, b.q0, b.q1, b.q2, b.q3, b.q4, b.q5, b.q6⟩
    have LT : Hid (∀ j, F j → j < w.heap.size) := hlb
    have HBB : Hid (bb = w.heap.size) := hbb
    have nz1 : ¬ H = bb + 1 := fun q => by omega
    have nz0 : ¬ bb = bb + 1 := fun q => by omega
    go_enter Tryz.func39, Tryz.ntmps39
    go_upto_region 4 with (go_at_call 98; rw [← hW]; refine KF.mono ?_; clear KF hW; rintro e w1 ⟨rfl, hw⟩; have := hw.symm; subst this)
    rw [← hbb]
    clear hbb lH lM lW hlb
    go_cut [7] from 20 to 28 (fun s7 wy => s7 = vf ∧ ∃ pu cu, Ab wy (bb + 1) (.int .i64 a.p.1) (.int .i64 a.p.2) (.int .i64 a.ad) (.string a.ow) (.slice pu a.l.length cu) ∧ wy.ownsRow w.heap.size 31 2 (.slice pu a.l.length cu) a.l.length (pfV a.l) ∧ ∃ G', Hl T wy G' H d2 S ∧ (∀ j, G' j → Nw G w wy j) ∧ But G w wy ∧ ∀ j, (Value.slice pu a.l.length cu).ownBlock = some j → ¬ G' j)
    case first =>
      go_region_held3 (fun wy => wy.cell? ⟨H, 0, none⟩ = some (.pointer (some ⟨B, 0, none⟩)) ∧ wy.cell? ⟨bb, 0, none⟩ = some (.int .i64 c.what) ∧ wy.cell? ⟨bb, 1, none⟩ = some (.string c.nm) ∧ wy.cell? ⟨bb, 2, none⟩ = some (.int .i64 c.p.1) ∧ wy.cell? ⟨bb, 3, none⟩ = some (.int .i64 c.p.2) ∧ wy.cell? ⟨bb, 4, none⟩ = some (.int .i64 c.len) ∧ wy.cell? ⟨bb, 5, none⟩ = some (.int .i64 c.ad) ∧ wy.cell? ⟨bb, 6, none⟩ = some (.string c.ow))
        (with_reducible first | exact sx (hh1.step (below_self W).drew) (cb.step (below_self W).drew) | exact sx hh1 cb | exact sx hh3 cb3 | exact sx (hh3.but (but_5 (bb + 1) (But.refl (fun j => j = bb + 1) w3) _ _ _ _ _) nz1) (cb3.but (but_5 (bb + 1) (But.refl (fun j => j = bb + 1) w3) _ _ _ _ _) nz0))
        (first
          | (go_at_call 19; with_reducible refine (KD _ (below_self W).drew).mono ?_; rintro e w3 ⟨u, rfl, F2, h3, hn3, b3, row3, sep3⟩; obtain ⟨pu, cu, rfl⟩ := own_form row3; have hh3 : Hh w3 H B M := (hh1.step (below_self W).drew).but b3 hx.nH; have cb3 : Cb w3 bb c := (cb.step (below_self W).drew).but b3 nb0; have ab3 := (ab.step (below_self W).drew).but b3 nb1; obtain ⟨x0, x1, x2, x3, x4, y0, y1, y2, y3, y4⟩ := id ab3))
      all_goals (
        go_wp2_with fail
        go_meet)
      all_goals (exact ⟨rfl, pu, cu, ab3.all _ _ _ _ _, FH.out (below_self _).drew h3 hn3 b3 row3 sep3 (but_5 _ (But.refl _ _) _ _ _ _ _)⟩)
    case rest =>
      obtain ⟨hs7, pu, cu, abz, R⟩ := hcut
      rw [hs7]
      clear hs7
      have RH : Hid _ := R
      obtain ⟨x0, x1, x2, x3, x4, y0, y1, y2, y3, y4⟩ := id abz
      go_wp2_with fail
      exact bodyPost_ret (v := .tuple #[anV a (.slice pu a.l.length cu), vf]) (by simp [results, Tryz.results39, go_sem, x0, x1, x2, x3, x4]) rfl ⟨_, rfl, RH.out⟩
end
end Go.Proofs.YthaggkmammfpbaaGreatDoor.Pa

namespace Go.Proofs.YthaggkmammfpbaaGreatDoor.Pa
open Go.RowKit Go.Maps Vs

/-- A hall, and blocks K that it does not have. -/
structure H1 (T : Td) (w0 : World) (K : Nat → Prop) (w : World) (H : Nat) (d : Dk) (S : Ses) : Prop where
  ex : ∃ G, Hl T w G H d S ∧ ∀ j, K j → ¬ G j
  kl : ∀ j, K j → j < w.heap.size
  old : ∀ j, j < w0.heap.size → K j
  bl : Below w0.heap.size w0 w
section
variable {T : Td} {w0 w w' : World} {K : Nat → Prop} {H : Nat} {d : Dk} {S : Ses}
theorem H1.op {G : Nat → Prop} {d' : Dk} {S' : Ses} (h : H1 T w0 K w H d S) (hK : ∀ j, K j → ¬ G j) (hp : Hp T G H w w' d' S') : H1 T w0 K w' H d' S' ∧ But (fun j => ¬ K j) w w' := by
  obtain ⟨G', h1, n1, b1⟩ := hp
  have s := b1.size
  refine ⟨⟨⟨G', h1, fun j hj q => ?_⟩, fun j hj => Nat.lt_of_lt_of_le (h.kl j hj) s, h.old, But.under2 h.bl b1 h.bl.size (fun i hi q => hK i (h.old i hi) q)⟩, b1.mono (fun j _ hj q => hK j q hj)⟩
  rcases n1 j q with g | g
  · exact hK j hj g
  · have := h.kl j hj
    have := g.1
    omega
theorem H1.step (V : DFace T) (h : H1 T w0 K w H d S) (hb : Below w.heap.size w w') : H1 T w0 (fun j => K j ∨ (w.heap.size ≤ j ∧ j < w'.heap.size)) w' H d S := by
  obtain ⟨G, h1, h2⟩ := h.ex
  have s := hb.size
  refine ⟨⟨G, h1.step V hb, fun j hj q => ?_⟩, fun j hj => ?_, fun j hj => .inl (h.old j hj), below_via h.bl hb⟩
  · rcases hj with g | g
    · exact h2 j g q
    · have := h1.lt q
      have := g.1
      omega
  · rcases hj with g | g
    · exact Nat.lt_of_lt_of_le (h.kl j g) s
    · exact g.2
theorem H1.en (h : H1 T w0 K w H d S) : En w := by
  obtain ⟨G, h1, h2⟩ := h.ex
  exact h1.en
theorem H1.open (V : DFace T) {k : Nat} (who : ByteArray) (h : H1 T w0 K w H d S) (dp : Dp k d) (hk : k ≤ 800) (hw : who.size ≤ maxLen) (hS : S.length ≤ 1000) :
    Calls Tryz.prog 26 #[.pointer (some ⟨H, 0, none⟩), .string who] w fun e w' => e = .returned (ev (hoF d S who)) ∧ H1 T w0 K w' H (hoD d S who) (hoS d S who) ∧ But (fun j => ¬ K j) w w' := by
  obtain ⟨G, h1, h2⟩ := h.ex
  refine (hallOpen V h1 dp.ok (dp.sm (by omega)) who hw hS).mono ?_
  rintro e w' ⟨rfl, hp⟩
  exact ⟨rfl, h.op h2 hp⟩
theorem H1.ask (V : DFace T) {k : Nat} (who : ByteArray) (c : Cl) (h : H1 T w0 K w H d S) (dp : Dp k d) (hk : k ≤ 800) (hw : who.size ≤ maxLen) :
    Calls Tryz.prog 39 #[.pointer (some ⟨H, 0, none⟩), .string who, clV c] w fun e w' => ∃ u, e = .returned (.tuple #[anV (haA d S who c) u, ev (haF d S who c)]) ∧ w'.ownsRow w.heap.size 31 2 u (haA d S who c).l.length (pfV (haA d S who c).l) ∧ H1 T w0 (fun j => K j ∨ u.ownBlock = some j) w' H (haD d S who c) S ∧ But (fun j => ¬ K j) w w' := by
  obtain ⟨G, h1, h2⟩ := h.ex
  refine (hallAsk V h1 dp.ok (dp.sm (by omega)) who hw c).mono ?_
  rintro e w' ⟨u, rfl, row, G', g1, g2, g3, g4⟩
  obtain ⟨q1, q2⟩ := h.op h2 ⟨G', g1, g2, g3⟩
  have s := g3.size
  refine ⟨u, rfl, row, ⟨⟨G', g1, fun j hj q => ?_⟩, fun j hj => ?_, fun j hj => .inl (h.old j hj), q1.bl⟩, q2⟩
  · rcases hj with g | g
    · rcases g2 j q with z | z
      · exact h2 j g z
      · have := h.kl j g
        have := z.1
        omega
    · exact g4 j g q
  · rcases hj with g | g
    · exact Nat.lt_of_lt_of_le (h.kl j g) s
    · exact (row.lt j g).2
theorem H1.close (V : DFace T) {k : Nat} (who : ByteArray) (h : H1 T w0 K w H d S) (dp : Dp k d) (hk : k ≤ 800) (hw : who.size ≤ maxLen) :
    Calls Tryz.prog 28 #[.pointer (some ⟨H, 0, none⟩), .string who] w fun e w' => e = .returned (.tuple #[.int .i64 (hcN d S who), ev (hcF d S who)]) ∧ H1 T w0 K w' H (hcD d S who) (sDel S who) ∧ But (fun j => ¬ K j) w w' := by
  obtain ⟨G, h1, h2⟩ := h.ex
  refine (hallClose V h1 dp.ok (dp.sm (by omega)) dp.spz who hw).mono ?_
  rintro e w' ⟨rfl, hp⟩
  exact ⟨rfl, h.op h2 hp⟩
theorem H1.quit (V : DFace T) {k : Nat} (who : ByteArray) (h : H1 T w0 K w H d S) (dp : Dp k d) (hk : k ≤ 800) (hw : who.size ≤ maxLen) :
    Calls Tryz.prog 30 #[.pointer (some ⟨H, 0, none⟩), .string who] w fun e w' => e = .returned (ev (hqF d S who)) ∧ H1 T w0 K w' H (hqD d S who) (sDel S who) ∧ But (fun j => ¬ K j) w w' := by
  obtain ⟨G, h1, h2⟩ := h.ex
  refine (hallQuit V h1 dp.ok (dp.sm (by omega)) who hw).mono ?_
  rintro e w' ⟨rfl, hp⟩
  exact ⟨rfl, h.op h2 hp⟩
end
end Go.Proofs.YthaggkmammfpbaaGreatDoor.Pa

namespace Go.Proofs.YthaggkmammfpbaaGreatDoor.Pa
open Go.RowKit Go.Maps Vs

def zz : ByteArray := ⟨#[122]⟩
theorem zz_n : Bur.isN zz.data.toList = true := by decide
theorem spAt_row {w : World} {B n cap : Nat} {p : Option Addr} {l : List Bur.Sp} (h : w.ownsRow B 31 2 (.slice p n cap) l.length (pfV l)) : Ta.SpAt w p l := (Ta.spAt_own (B := B) (n := n) (cap := cap) h).2
theorem own_le {w : World} {B e size n : Nat} {v : Value} {xs : List Value} (h : w.ownsRow B e size v n xs) : n ≤ 9223372036854775807 := by
  rcases h.2 with ⟨_, h0⟩ | ⟨g, cap, cur, h0, _, hg, h1, h2, _⟩
  · omega
  · unfold maxLen at h2; omega
theorem pair_lens {d : Dk} {k : Nat} (h : Dp k d) (hk : k ≤ 800) : (allP d).length ≤ 1000000 := by
  have h1 := allP_len d
  have h2 := h.ok.len
  have h3 := h.wl
  unfold wt at h3
  omega
section
variable {T : Td} {GX GY : Nat → Prop} {Sx Sy : Ses} {dx dy : Dk} {X Y bA bB k : Nat} {a : An} {pu qu : Option Addr} {cu cv : Nat} {nn : Int} {w wx : World} {vf : Value}
set_option maxRecDepth 100000 in
set_option maxHeartbeats 4000000 in
theorem ho3 (V : DFace T) {c0 c1 c2 c3 c4 c9 c12 c13 c15 c19 c20 c21 c22 c23 c24 c25 c26 c27 c28 c29 c30 c31 c32 c33 c34 c35 c36 c37 c38 c39 c40 c41 c42 c43 c44 c45 c46 c47 c48 c49 c50 c51 c52 c53 c54 c55 c56 c57 c58 c59 c60 c61 c62 c63 c64 c65 c66 c67 c68 c69 c70 c71 c72 c73 c74 c75 c76 c77 c78 c79 c80 c81 c82 c83 c84 c85 c86 c87 c88 c89 c90 c91 c92 c93 c94 c95 c96 c97 c98 c99 c100 c101 c102 c103 c104 c105 c106 c107 c108 c109 c110 c111 c112 c113 c114 c115 c116 c117 c118 c119 c120 c121 c122 c123 c124 c125 c126 c127 c128 c129 c130 c131 c132 c133 c134 c135 c136 c137 c138 c139 c140 c141 c142 : Value}
    (hv : vf = .nilIface ∨ ∃ f, vf = errN f) (hX : Hl T wx GX X dx Sx) (px : Dp k dx) (hY : Hl T wx GY Y dy Sy) (py : Dp k dy) (hk : k ≤ 800) (he : allP dx = allP dy)
    (a1 : Ab wx bA (.int .i64 a.p.1) (.int .i64 a.p.2) (.int .i64 a.ad) (.string a.ow) (.slice pu a.l.length cu)) (a2 : Ab wx bB (.int .i64 a.p.1) (.int .i64 a.p.2) (.int .i64 a.ad) (.string a.ow) (.slice qu a.l.length cv)) (s1 : Ta.SpAt wx pu a.l) (s2 : Ta.SpAt wx qu a.l) (hl : a.l.length ≤ 9223372036854775807) (bl : Below w.heap.size w wx) :
    Code.wp Tryz.prog (dropSeq 13 (Tryz.f7.body.getD .skip)) (bodyPost Tryz.prog Tryz.f7 fun e w' => e = .returned (.bool true) ∧ Below w.heap.size w w') ⟨#[c0, c1, c2, c3, c4, .pointer (some ⟨X, 0, none⟩), .nilIface, .pointer (some ⟨Y, 0, none⟩), .nilIface, c9, .int .i64 nn, vf, c12, c13, vf, c15, .pointer (some ⟨bA, 0, none⟩), .pointer (some ⟨bB, 0, none⟩), .int .i64 nn, c19, c20, c21, c22, c23, c24, c25, c26, c27, c28, c29, c30, c31, c32, c33, c34, c35, c36, c37, c38, c39, c40, c41, c42, c43, c44, c45, c46, c47, c48, c49, c50, c51, c52, c53, c54, c55, c56, c57, c58, c59, c60, c61, c62, c63, c64, c65, c66, c67, c68, c69, c70, c71, c72, c73, c74, c75, c76, c77, c78, c79, c80, c81, c82, c83, c84, c85, c86, c87, c88, c89, c90, c91, c92, c93, c94, c95, c96, c97, c98, c99, c100, c101, c102, c103, c104, c105, c106, c107, c108, c109, c110, c111, c112, c113, c114, c115, c116, c117, c118, c119, c120, c121, c122, c123, c124, c125, c126, c127, c128, c129, c130, c131, c132, c133, c134, c135, c136, c137, c138, c139, c140, c141, c142], []⟩ wx := by
  conv => arg 2; whnf
  have P1 := answersSame a pu qu cu cv wx hl s1 s2
  obtain ⟨x0, x1, x2, x3, x4, _, _, _, _, _⟩ := id a1
  obtain ⟨y0, y1, y2, y3, y4, _, _, _, _, _⟩ := id a2
  have BL : Hid (Below w.heap.size w wx) := bl
  have HE : Hid (allP dx = allP dy) := he
  clear he bl
  have ln := pair_lens px hk
  go_wp2_with fail
  refine P1.mono ?_
  rintro e w1 ⟨rfl, b1⟩
  have P2 := hallAll V (hX.step V b1) px.ok (px.sm (by omega))
  clear P1 x0 x1 x2 x3 x4 y0 y1 y2 y3 y4
  go_wp2_with fail
  refine P2.mono ?_
  rintro e w2 ⟨q, cq, rfl, hc1, pr1, b2⟩
  have P3 := hallAll V ((hY.step V b1).step V b2) py.ok (py.sm (by omega))
  clear P2
  go_wp2_with fail
  refine P3.mono ?_
  rintro e w3 ⟨q2, cq2, rfl, hc2, pr2, b3⟩
  have P4 := samePairs (allP dx) (allP dy) q q2 cq cq2 w3 ln (pr1.at.step b3) pr2.at
  rw [decide_eq_true HE.out] at P4
  clear P3
  go_wp2_with fail
  refine P4.mono ?_
  rintro e w4 ⟨rfl, hw4⟩
  clear P4 pr1 pr2 hc1 hc2 ln
  rcases hv with rfl | ⟨f, rfl⟩
  all_goals (
    go_wp2_with fail
    go_quiet (fail)
    go_wp2_with fail
    go_ret)
  all_goals exact ⟨rfl, below_via (below_via (below_via (below_via (below_via BL.out b1) b2) b3) hw4) (below_drewN (below_self _) _)⟩
theorem row_kept {w w' : World} {K : Nat → Prop} {B e size n : Nat} {v : Value} {xs : List Value} (h : w.ownsRow B e size v n xs) (hb : But (fun j => ¬ K j) w w') (hv : ∀ j, v.ownBlock = some j → K j) : w'.ownsRow B e size v n xs := Go.Proofs.YthaggkmammfpbaaGreatDoor.row_but h hb (fun j hj q => q (hv j hj))
set_option maxRecDepth 100000 in
set_option maxHeartbeats 4000000 in
theorem ho2 (V : DFace T) {d : Dk} {c : Cl} {c0 c1 c2 c4 c6 c8 c9 c10 c11 c12 c13 c14 c15 c16 c17 c18 c19 c20 c21 c22 c23 c24 c25 c26 c27 c28 c29 c30 c31 c32 c33 c34 c35 c36 c37 c38 c39 c40 c41 c42 c43 c44 c45 c46 c47 c48 c49 c50 c51 c52 c53 c54 c55 c56 c57 c58 c59 c60 c61 c62 c63 c64 c65 c66 c67 c68 c69 c70 c71 c72 c73 c74 c75 c76 c77 c78 c79 c80 c81 c82 c83 c84 c85 c86 c87 c88 c89 c90 c91 c92 c93 c94 c95 c96 c97 c98 c99 c100 c101 c102 c103 c104 c105 c106 c107 c108 c109 c110 c111 c112 c113 c114 c115 c116 c117 c118 c119 c120 c121 c122 c123 c124 c125 c126 c127 c128 c129 c130 c131 c132 c133 c134 c135 c136 c137 c138 c139 c140 c141 c142 : Value}
    (hX : Hl T wx GX X d []) (hY : Hl T wx GY Y d []) (dis : ∀ j, GX j → ¬ GY j) (lx : ∀ j, GX j → w.heap.size < j) (ly : ∀ j, GY j → w.heap.size < j) (oc : Oc k d) (hk : k ≤ 130) (cb : Cb wx w.heap.size c) (bl : Below w.heap.size w wx) :
    Code.wp Tryz.prog (dropSeq 8 (Tryz.f7.body.getD .skip)) (bodyPost Tryz.prog Tryz.f7 fun e w' => e = .returned (.bool true) ∧ Below w.heap.size w w') ⟨#[c0, c1, c2, .pointer (some ⟨w.heap.size, 0, none⟩), c4, .pointer (some ⟨X, 0, none⟩), c6, .pointer (some ⟨Y, 0, none⟩), c8, c9, c10, c11, c12, c13, c14, c15, c16, c17, c18, c19, c20, c21, c22, c23, c24, c25, c26, c27, c28, c29, c30, c31, c32, c33, c34, c35, c36, c37, c38, c39, c40, c41, c42, c43, c44, c45, c46, c47, c48, c49, c50, c51, c52, c53, c54, c55, c56, c57, c58, c59, c60, c61, c62, c63, c64, c65, c66, c67, c68, c69, c70, c71, c72, c73, c74, c75, c76, c77, c78, c79, c80, c81, c82, c83, c84, c85, c86, c87, c88, c89, c90, c91, c92, c93, c94, c95, c96, c97, c98, c99, c100, c101, c102, c103, c104, c105, c106, c107, c108, c109, c110, c111, c112, c113, c114, c115, c116, c117, c118, c119, c120, c121, c122, c123, c124, c125, c126, c127, c128, c129, c130, c131, c132, c133, c134, c135, c136, c137, c138, c139, c140, c141, c142], []⟩ wx := by
  have e1 : onF d c = onG d c := oc.onF (by omega) c
  obtain ⟨e2, e3⟩ := oc.an (by omega) c
  have f0 : hoF d [] zz = 0 := by unfold hoF; rw [if_pos zz_n, if_neg (by simp [sId])]; exact oc.bg
  have f1 : hoD d [] zz = bgD d := if_pos ⟨zz_n, rfl⟩
  have f2 : hoS d [] zz = [(zz, bgN d)] := if_pos f0
  have g0 : sId [(zz, bgN d)] zz = some (bgN d) := if_pos rfl
  have h1 : haF (bgD d) [(zz, bgN d)] zz c = onG d c := by unfold haF; rw [g0]; rfl
  have h2 : haA (bgD d) [(zz, bgN d)] zz c = onA d c := by unfold haA; rw [g0]; exact e2.symm
  have h3 : haD (bgD d) [(zz, bgN d)] zz c = onX d c := by unfold haD; rw [g0]; rfl
  have px : Dp (k + 3) (onD d c) := (oc.next c).dp
  have py : Dp (k + 2) (onX d c) := dp_run oc.dp.bg c (bgN d)
  have c1 : hcF (onX d c) [(zz, bgN d)] zz = 0 := by unfold hcF; rw [g0]; exact oc.cm (by omega) c
  have c2 : hcN (onX d c) [(zz, bgN d)] zz = cmN (onX d c) (bgN d) := by unfold hcN; rw [g0]
  have c3 : hcD (onX d c) [(zz, bgN d)] zz = cmD (onX d c) (bgN d) := by unfold hcD; rw [g0]
  have u1 : hqF (onX d c) [(zz, bgN d)] zz = 0 := by unfold hqF; rw [g0]; exact on_open c oc.bg
  have u2 : hqD (onX d c) [(zz, bgN d)] zz = opDel (onX d c) (bgN d) := by unfold hqD; rw [g0]
  have pz : Dp (k + 3) (if onG d c = 0 then cmD (onX d c) (bgN d) else opDel (onX d c) (bgN d)) := by split; exact py.cm _; exact py.del _
  have ez : onD d c = (if onG d c = 0 then cmD (onX d c) (bgN d) else opDel (onX d c) (bgN d)) := by unfold onD; rw [if_pos oc.bg]
  have P1 := hallOnce V c hX oc.dp.ok (by have := oc.dp.wl; omega) (by have := oc.dp.ids; omega) oc.dp.spz
  have P2 := fun {K : Nat → Prop} {wz : World} (h : H1 T w K wz Y d []) => h.open V zz oc.dp (by omega) (by decide) (by decide)
  have P3 := fun {K : Nat → Prop} {wz : World} (h : H1 T w K wz Y (bgD d) [(zz, bgN d)]) => h.ask V zz c oc.dp.bg (by omega) (by decide)
  have P4 := fun {K : Nat → Prop} {wz : World} (h : H1 T w K wz Y (onX d c) [(zz, bgN d)]) => h.close V zz py (by omega) (by decide)
  have P5 := fun {K : Nat → Prop} {wz : World} (h : H1 T w K wz Y (onX d c) [(zz, bgN d)]) => h.quit V zz py (by omega) (by decide)
  rw [e1, e3] at P1
  rw [f0, f1, f2, ev_0] at P2
  rw [h1, h2, h3] at P3
  rw [c1, c2, c3, ev_0] at P4
  rw [u1, u2, ev_0] at P5
  rw [ez] at P1 px
  clear e1 e2 e3 f0 f1 f2 g0 h1 h2 h3 c1 c2 c3 u1 u2 ez oc py
  conv => arg 2; whnf
  obtain ⟨q0, q1, q2, q3, q4, q5, q6⟩ := id cb
  generalize onA d c = a at P1 P3
  generalize hnn : (if onG d c = 0 then cmN (onX d c) (bgN d) else 0) = nn at P1
  generalize hdx : (if onG d c = 0 then cmD (onX d c) (bgN d) else opDel (onX d c) (bgN d)) = dx at P1 px pz
  have HN : Hid _ := hnn
  have HD : Hid _ := hdx
  clear hnn hdx
  generalize cmN (onX d c) (bgN d) = nm at P4 HN
  generalize cmD (onX d c) (bgN d) = dc at P4 HD
  generalize opDel (onX d c) (bgN d) = dq at P5 HD
  generalize onX d c = d2 at P3 P4 P5
  generalize bgD d = d1 at P2 P3
  generalize bgN d = i1 at P2 P3 P4 P5
  generalize onG d c = f at P1 P3 HN HD
  go_wp2_with fail
  refine P1.mono ?_
  rintro e w1 ⟨u, rfl, row1, GX1, hX1, nX1, bX1⟩
  obtain ⟨pu, cu, rfl⟩ := own_form row1
  clear P1 q0 q1 q2 q3 q4 q5 q6
  obtain ⟨W1, hW1⟩ : ∃ W1, W1 = w1.alloc (.cells #[.int .i64 a.p.1, .int .i64 a.p.2, .int .i64 a.ad, .string a.ow, .slice pu a.l.length cu] 48) := ⟨_, rfl⟩
  have bA1 : Below w1.heap.size w1 W1 := by rw [hW1]; exact below_al (below_self w1) _
  have ab1 : Ab W1 w1.heap.size (.int .i64 a.p.1) (.int .i64 a.p.2) (.int .i64 a.ad) (.string a.ow) (.slice pu a.l.length cu) := by rw [hW1]; exact Ab.new w1 _ _ _ _ _ _
  have row2 : W1.ownsRow wx.heap.size 31 2 (.slice pu a.l.length cu) a.l.length (pfV a.l) := by rw [hW1]; exact row1.alloc _
  have sx := bX1.size
  have sA : W1.heap.size = w1.heap.size + 1 := by rw [hW1]; simp
  have hX2 := hX1.step V bA1
  have dis1 : ∀ j, GX1 j → ¬ GY j := fun j hj q => (nX1 j hj).elim (fun g => dis j g q) (fun g => by have := hY.lt q; have := g.1; omega)
  have hY1 : Hl T w1 GY Y d [] := hY.but V bX1 (fun j hj q => dis j q hj) hX1.en
  have hY2 := hY1.step V bA1
  have bl1 : Below w.heap.size w w1 := But.under2 bl bX1 bl.size (fun i hi q => by have := lx i q; omega)
  have bl2 := below_via bl1 bA1
  have s2 := bl2.size
  have hlen : a.l.length ≤ 9223372036854775807 := own_le row1
  obtain ⟨K, hK⟩ : ∃ K : Nat → Prop, K = fun j => j < W1.heap.size ∧ ¬ GY j := ⟨_, rfl⟩
  have hy1 : H1 T w K W1 Y d [] := by
    rw [hK]
    exact ⟨⟨GY, hY2, fun j hj => hj.2⟩, fun j hj => hj.1, fun j hj => ⟨by omega, fun q => by have := ly j q; omega⟩, bl2⟩
  have kx : ∀ j, GX1 j → K j := fun j hj => by rw [hK]; exact ⟨hX2.lt hj, dis1 j hj⟩
  have kA : K w1.heap.size := by rw [hK]; exact ⟨by omega, fun q => by have := hY1.lt q; omega⟩
  have cl := (cb.but bX1 (fun q => by have := lx _ q; omega)).lt
  have kC : K w.heap.size := by rw [hK]; exact ⟨by omega, fun q => by have := ly _ q; omega⟩
  have kR : ∀ j, (Value.slice pu a.l.length cu).ownBlock = some j → K j := fun j hj => by
    have := row1.lt j hj
    rw [hK]
    exact ⟨by omega, fun q => by have := hY.lt q; omega⟩
  have cb1 : Cb W1 w.heap.size c := (cb.but bX1 (fun q => by have := lx _ q; omega)).step bA1
  clear hK hY1 hY2 hY hX hX1 dis dis1 lx ly cb bX1 nX1 row1 bl1 bl2 bl bA1 sx sA s2 cl
  have Q2 := P2 hy1
  go_wp2_with fail
  rw [← hW1]
  refine Q2.mono ?_
  rintro e w2 ⟨rfl, hy2, bt2⟩
  have hX3 := hX2.but V bt2 (fun j hj q => q (kx j hj)) hy2.en
  have ab2 := ab1.but bt2 (fun q => q kA)
  have cb2 := cb1.but bt2 (fun q => q kC)
  have row3 := row_kept row2 bt2 kR
  obtain ⟨bA, hbA⟩ : ∃ bA, bA = w1.heap.size := ⟨_, rfl⟩
  rw [← hbA] at kA ab2 ⊢
  clear P2 Q2 hX2 ab1 cb1 row2 hy1 bt2 hW1 hbA
  have Q3 := P3 hy2
  obtain ⟨q0, q1, q2, q3, q4, q5, q6⟩ := id cb2
  go_wp2_with fail
  refine Q3.mono ?_
  rintro e w3 ⟨u2, rfl, row4, hy3, bt3⟩
  obtain ⟨pv, cv, rfl⟩ := own_form row4
  clear P3 Q3 q0 q1 q2 q3 q4 q5 q6
  obtain ⟨W3, hW3⟩ : ∃ W3, W3 = w3.alloc (.cells #[.int .i64 a.p.1, .int .i64 a.p.2, .int .i64 a.ad, .string a.ow, .slice pv a.l.length cv] 48) := ⟨_, rfl⟩
  have bA3 : Below w3.heap.size w3 W3 := by rw [hW3]; exact below_al (below_self w3) _
  have ab3 : Ab W3 w3.heap.size (.int .i64 a.p.1) (.int .i64 a.p.2) (.int .i64 a.ad) (.string a.ow) (.slice pv a.l.length cv) := by rw [hW3]; exact Ab.new w3 _ _ _ _ _ _
  have row5 : W3.ownsRow w2.heap.size 31 2 (.slice pv a.l.length cv) a.l.length (pfV a.l) := by rw [hW3]; exact row4.alloc _
  have row6 : W3.ownsRow wx.heap.size 31 2 (.slice pu a.l.length cu) a.l.length (pfV a.l) := by rw [hW3]; exact (row_kept row3 bt3 kR).alloc _
  have sA3 : W3.heap.size = w3.heap.size + 1 := by rw [hW3]; simp
  have hX4 := (hX3.but V bt3 (fun j hj q => q (kx j hj)) hy3.en).step V bA3
  have ab4 := (ab2.but bt3 (fun q => q kA)).step bA3
  have hy4 := hy3.step V bA3
  obtain ⟨bB, hbB⟩ : ∃ bB, bB = w3.heap.size := ⟨_, rfl⟩
  rw [← hbB] at ab3
  obtain ⟨K3, hK3⟩ : ∃ K3 : Nat → Prop, K3 = (fun j => (K j ∨ (Value.slice pv a.l.length cv).ownBlock = some j) ∨ w3.heap.size ≤ j ∧ j < W3.heap.size) := ⟨_, rfl⟩
  rw [← hK3] at hy4
  have kB : K3 bB := by rw [hK3]; exact .inr ⟨by omega, by omega⟩
  have kx' : ∀ j, GX1 j → K3 j := fun j hj => by rw [hK3]; exact .inl (.inl (kx j hj))
  have kA' : K3 bA := by rw [hK3]; exact .inl (.inl kA)
  have kR' : ∀ j, (Value.slice pu a.l.length cu).ownBlock = some j → K3 j := fun j hj => by rw [hK3]; exact .inl (.inl (kR j hj))
  have kS : ∀ j, (Value.slice pv a.l.length cv).ownBlock = some j → K3 j := fun j hj => by rw [hK3]; exact .inl (.inr hj)
  clear hK3
  clear hX3 ab2 cb2 row3 row4 hy3 bt3 kx kA kR kC hy2 bA3
  have FIN : ∀ {w4 : World} {dy : Dk} {Sy : Ses}, H1 T w K3 w4 Y dy Sy → But (fun j => ¬ K3 j) W3 w4 → dy = dx → Hl T w4 GX1 X dx [] ∧ (∃ G S, Hl T w4 G Y dx S) ∧ Ab w4 bA (.int .i64 a.p.1) (.int .i64 a.p.2) (.int .i64 a.ad) (.string a.ow) (.slice pu a.l.length cu) ∧ Ab w4 bB (.int .i64 a.p.1) (.int .i64 a.p.2) (.int .i64 a.ad) (.string a.ow) (.slice pv a.l.length cv) ∧ Ta.SpAt w4 pu a.l ∧ Ta.SpAt w4 pv a.l ∧ Below w.heap.size w w4 := by
    intro w4 dy Sy h b e
    subst e
    obtain ⟨G, g1, _⟩ := h.ex
    exact ⟨hX4.but V b (fun j hj q => q (kx' j hj)) h.en, ⟨G, Sy, g1⟩, ab4.but b (fun q => q kA'), ab3.but b (fun q => q kB), spAt_row (row_kept row6 b kR'), spAt_row (row_kept row5 b kS), h.bl⟩
  have FH : Hid _ := @FIN
  clear FIN hX4 ab4 ab3 kx' kA' kB kR' kS row5 row6
  by_cases hf : f = 0
  · have Q4 := P4 hy4
    have E1 : Hid (nm = nn ∧ dc = dx) := ⟨by have := HN.out; rw [if_pos hf] at this; exact this, by have := HD.out; rw [if_pos hf] at this; exact this⟩
    rw [hf, ev_0]
    clear hf
    go_upto_if 103 with fail
    rw [← hW3, ← hbB]
    go_cut [8, 18] (fun s8 s18 wy => s8 = .nilIface ∧ s18 = .int .i64 nn ∧ Hl T wy GX1 X dx [] ∧ (∃ G S, Hl T wy G Y dx S) ∧ Ab wy bA (.int .i64 a.p.1) (.int .i64 a.p.2) (.int .i64 a.ad) (.string a.ow) (.slice pu a.l.length cu) ∧ Ab wy bB (.int .i64 a.p.1) (.int .i64 a.p.2) (.int .i64 a.ad) (.string a.ow) (.slice pv a.l.length cv) ∧ Ta.SpAt wy pu a.l ∧ Ta.SpAt wy pv a.l ∧ Below w.heap.size w wy)
    case first =>
      clear hW3 hbB
      go_wp2_with fail
      refine Q4.mono ?_
      rintro e w4 ⟨rfl, hy5, bt5⟩
      go_wp2_with fail
      go_meet
      exact ⟨rfl, by rw [E1.out.1], FH.out hy5 bt5 E1.out.2⟩
    case rest =>
      obtain ⟨rfl, rfl, z1, ⟨G, S, z2⟩, z3, z4, z5, z6, z7⟩ := hcut
      refine ‹∀ (a : Act) (w : World), Code.wp _ _ _ a w → _› _ _ ?_
      exact ho3 V (.inl rfl) z1 px z2 px (by omega) rfl z3 z4 z5 z6 hlen z7
  · have Q4 := P5 hy4
    have E1 : Hid (0 = nn ∧ dq = dx) := ⟨by have := HN.out; rw [if_neg hf] at this; exact this, by have := HD.out; rw [if_neg hf] at this; exact this⟩
    rw [ev_ne hf]
    clear hf
    go_upto_if 103 with fail
    rw [← hW3, ← hbB]
    go_cut [8, 18] (fun s8 s18 wy => s8 = .nilIface ∧ s18 = .int .i64 nn ∧ Hl T wy GX1 X dx [] ∧ (∃ G S, Hl T wy G Y dx S) ∧ Ab wy bA (.int .i64 a.p.1) (.int .i64 a.p.2) (.int .i64 a.ad) (.string a.ow) (.slice pu a.l.length cu) ∧ Ab wy bB (.int .i64 a.p.1) (.int .i64 a.p.2) (.int .i64 a.ad) (.string a.ow) (.slice pv a.l.length cv) ∧ Ta.SpAt wy pu a.l ∧ Ta.SpAt wy pv a.l ∧ Below w.heap.size w wy)
    case first =>
      clear hW3 hbB
      go_wp2_with fail
      refine Q4.mono ?_
      rintro e w4 ⟨rfl, hy5, bt5⟩
      go_wp2_with fail
      go_meet
      exact ⟨rfl, by rw [E1.out.1], FH.out hy5 bt5 E1.out.2⟩
    case rest =>
      obtain ⟨rfl, rfl, z1, ⟨G, S, z2⟩, z3, z4, z5, z6, z7⟩ := hcut
      refine ‹∀ (a : Act) (w : World), Code.wp _ _ _ a w → _› _ _ ?_
      exact ho3 V (.inr ⟨f, rfl⟩) z1 px z2 px (by omega) rfl z3 z4 z5 z6 hlen z7
end
end Go.Proofs.YthaggkmammfpbaaGreatDoor.Pa

