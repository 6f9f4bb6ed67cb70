/- An argument that is steps, or a call, opened. -/
import Derived.Test.YthaggkmammfpbaaGreatDoorDAdCutMath
import Derived.Test.YthaggkmammfpbaaGreatDoorDPlR
import Derived.Test.YthaggkmammfpbaaGreatDoorRows
import Derived.ProofKit
import Derived.OpenShut
import Derived.Deep.SlicePairs
import Derived.ChangeMaps5
import Derived.Carry
import Derived.Test.YthaggkmammfpbaaGreatDoorDHlG
namespace Go.Proofs.YthaggkmammfpbaaGreatDoor.Pa
open Go.ChangeShapes Go.WideShapes Go.ChangeAt Go.RowKit Go.Deep Vs

/-- A step of a script of calls. -/
structure Hs where
  what : Int
  who : ByteArray
  n : Int
  c : Cl
def hsL (x : Hs) : List Value := [.int .i64 x.what, .string x.who, .int .i64 x.n, .int .i64 x.c.what, .string x.c.nm, .int .i64 x.c.p.1, .int .i64 x.c.p.2, .int .i64 x.c.len, .int .i64 x.c.ad, .string x.c.ow]
def I6 (i : Int) : Prop := -9223372036854775808 ≤ i ∧ i ≤ 9223372036854775807
/-- Texts that may be, numbers that may be. -/
structure ClOk (c : Cl) : Prop where
  nm : c.nm.size ≤ maxLen
  ow : c.ow.size ≤ maxLen
  wh : I6 c.what
  p1 : I6 c.p.1
  p2 : I6 c.p.2
  ln : I6 c.len
  ad : I6 c.ad
structure HsOk (x : Hs) : Prop where
  who : x.who.size ≤ maxLen
  n : I6 x.n
  c : ClOk x.c
/-- Steps lie at the address of a slice, ten cells each, to be read. -/
def HsC (w : World) (b off : Nat) (l : List Hs) : Prop := ∀ i x, l[i]? = some x → ∀ j v, (hsL x)[j]? = some v → w.cell? ⟨b, off + (i * 10 + j), none⟩ = some v
def HsAt (w : World) (p : Option Addr) (l : List Hs) : Prop := 0 < l.length → ∃ b off, p = some ⟨b, off, none⟩ ∧ b < w.heap.size ∧ HsC w b off l
theorem HsAt.step {w w' : World} {p : Option Addr} {l : List Hs} (h : HsAt w p l) (hb : Below w.heap.size w w') : HsAt w' p l := fun hl => by
  obtain ⟨b, off, rfl, h1, h2⟩ := h hl
  exact ⟨b, off, rfl, Nat.lt_of_lt_of_le h1 hb.size, fun i x hx j v hv => (hb.cell (p := ⟨b, off + (i * 10 + j), none⟩) h1).trans (h2 i x hx j v hv)⟩
theorem hs_cells : Tryz.prog.cellsOf 35 = 10 := by kernel_rfl
theorem call_cells : Tryz.prog.cellsOf 33 = 7 := by kernel_rfl
theorem pfx_cells : Tryz.prog.cellsOf 31 = 2 := by kernel_rfl
theorem hint_cells : Tryz.prog.cellsOf 3 = 1 := by kernel_rfl
theorem hstr_cells : Tryz.prog.cellsOf 9 = 1 := by kernel_rfl
theorem hlaid_out : laidOutB Tryz.prog = true := by kernel_rfl
theorem i6_of {i : Int} (h : (Lit.int .i64 i).wf = true) : I6 i := by
  simpa [Lit.wf, I6, show IntKind.i64.min = -9223372036854775808 from rfl, show IntKind.i64.max = 9223372036854775807 from rfl] using h
theorem open_pfx {H : Type} {enc : TypeId × Value → H} {W : World} {k : Nat} {v0 v1 : Value} {y : DataW H × List MemPlace} (h : DataW.trod enc Tryz.prog W 0 (fun _ => true) true k 31 [v0, v1] = some y) : ∃ a b : Int, v0 = .int .i64 a ∧ v1 = .int .i64 b ∧ I6 a ∧ I6 b := by
  obtain ⟨xs, k, hk, hxy, _, hxl, hfl⟩ := DataW.trod_struct Tryz.underlying31 h
  match xs, hxl with
  | [y0, y1], _ =>
    have g0 := hfl 0 _ rfl
    have g1 := hfl 1 _ rfl
    simp [hint_cells] at g0 g1
    obtain ⟨k0, e0, _, z0⟩ := DataW.trod_int Tryz.underlying3 g0
    obtain ⟨k1, e1, _, z1⟩ := DataW.trod_int Tryz.underlying3 g1
    simp only [List.cons.injEq, and_true] at e0 e1
    exact ⟨k0, k1, e0, e1, i6_of z0, i6_of z1⟩
theorem open_callC {H : Type} {enc : TypeId × Value → H} {W : World} {k : Nat} {v0 v1 v2 v3 v4 v5 v6 : Value} {y : DataW H × List MemPlace} (h : DataW.trod enc Tryz.prog W 0 (fun _ => true) true k 33 [v0, v1, v2, v3, v4, v5, v6] = some y) :
    ∃ c : Cl, ClOk c ∧ v0 = .int .i64 c.what ∧ v1 = .string c.nm ∧ v2 = .int .i64 c.p.1 ∧ v3 = .int .i64 c.p.2 ∧ v4 = .int .i64 c.len ∧ v5 = .int .i64 c.ad ∧ v6 = .string c.ow := by
  obtain ⟨xs, k, hk, hxy, _, hxl, hfl⟩ := DataW.trod_struct Tryz.underlying33 h
  match xs, hxl with
  | [y0, y1, y2, y3, y4, y5], _ =>
    have g0 := hfl 0 _ rfl
    have g1 := hfl 1 _ rfl
    have g2 := hfl 2 _ rfl
    have g3 := hfl 3 _ rfl
    have g4 := hfl 4 _ rfl
    have g5 := hfl 5 _ rfl
    simp [hint_cells, hstr_cells, pfx_cells] at g0 g1 g2 g3 g4 g5
    obtain ⟨k0, e0, _, z0⟩ := DataW.trod_int Tryz.underlying3 g0
    obtain ⟨k1, e1, _, z1⟩ := DataW.trod_string Tryz.underlying9 g1
    obtain ⟨a, b, e2, e3, z2, z3⟩ := open_pfx g2
    obtain ⟨k4, e4, _, z4⟩ := DataW.trod_int Tryz.underlying3 g3
    obtain ⟨k5, e5, _, z5⟩ := DataW.trod_int Tryz.underlying3 g4
    obtain ⟨k6, e6, _, z6⟩ := DataW.trod_string Tryz.underlying9 g5
    simp only [List.cons.injEq, and_true] at e0 e1 e4 e5 e6
    exact ⟨⟨k0, k1, (a, b), k4, k5, k6⟩, ⟨z1, z6, i6_of z0, z2, z3, i6_of z4, i6_of z5⟩, e0, e1, e2, e3, e4, e5, e6⟩
set_option maxRecDepth 100000 in
/-- An argument that is a call. -/
theorem open_call {H : Type} {enc : TypeId × Value → H} {W : World} {base : Nat} {v : Value} {d : DataW H} {ps : List MemPlace} (hval : Value.okWide Tryz.prog W .any base 33 v) (h : DataW.Trod enc Tryz.prog W 0 (fun _ => true) true 33 v d ps) : ∃ c : Cl, ClOk c ∧ v = clV c := by
  obtain ⟨cs, rfl, hsz⟩ := okWide_struct Tryz.underlying33 hval
  rw [call_cells] at hsz
  obtain ⟨fuel, hf⟩ := h
  obtain ⟨l⟩ := cs
  match l, hsz with
  | [v0, v1, v2, v3, v4, v5, v6], _ =>
    obtain ⟨c, hc, e0, e1, e2, e3, e4, e5, e6⟩ := open_callC (by simpa [Value.cells] using hf)
    exact ⟨c, hc, by rw [e0, e1, e2, e3, e4, e5, e6]⟩
set_option maxRecDepth 100000 in
theorem open_hs {H : Type} {enc : TypeId × Value → H} {W : World} {base : Nat} {v : Value} {d : DataW H} {ps : List MemPlace} (hval : Value.okWide Tryz.prog W .any base 22 v) (h : DataW.Trod enc Tryz.prog W 0 (fun _ => true) true 22 v d ps) :
    ∃ (p : Option Addr) (cap : Nat) (l : List Hs), v = .slice p l.length cap ∧ l.length ≤ maxLen ∧ HsAt W p l ∧ ∀ x ∈ l, HsOk x := by
  obtain ⟨a0, len, cap, rfl⟩ := okWide_slice Tryz.underlying22 hval
  obtain ⟨fuel, hf⟩ := h
  rcases open_slice Tryz.underlying22 hf with ⟨h0, _⟩ | ⟨a, len', cap', m, n, D, Pl, hcs, _, hl, hm, hmm, hxd, hx⟩
  · simp [Value.cells] at h0
    obtain ⟨rfl, rfl, rfl⟩ := h0
    exact ⟨none, 0, [], rfl, by simp, fun h => by simp at h, fun x h => by simp at h⟩
  · simp [Value.cells] at hcs
    obtain ⟨rfl, rfl, rfl⟩ := hcs
    simp only [if_true] at hmm
    subst hmm
    have each : ∀ i, i < len → ∃ x : Hs, HsOk x ∧ ∀ j v, (hsL x)[j]? = some v → W.cell? (a.add (i * 10 + j)) = some v := by
      intro i hi
      obtain ⟨cs', h1, h2⟩ := hx i (by omega)
      rw [hs_cells] at h1
      obtain ⟨_, hlen, hcell⟩ := World.cells?_some h1
      obtain ⟨xs, k, hk, hxy, _, hxl, hfl⟩ := DataW.trod_struct Tryz.underlying35 h2
      match xs, hxl, cs', hlen with
      | [y0, y1, y2, y3], _, [v0, v1, v2, v3, v4, v5, v6, v7, v8, v9], _ =>
        have g0 := hfl 0 _ rfl
        have g1 := hfl 1 _ rfl
        have g2 := hfl 2 _ rfl
        have g3 := hfl 3 _ rfl
        simp [hint_cells, hstr_cells, call_cells] at g0 g1 g2 g3
        obtain ⟨k0, e0, _, _⟩ := DataW.trod_int Tryz.underlying3 g0
        obtain ⟨k1, e1, _, z1⟩ := DataW.trod_string Tryz.underlying9 g1
        obtain ⟨k2, e2, _, z2⟩ := DataW.trod_int Tryz.underlying3 g2
        obtain ⟨c, hc, q0, q1, q2, q3, q4, q5, q6⟩ := open_callC g3
        simp only [List.cons.injEq, and_true] at e0 e1 e2
        subst e0 e1 e2 q0 q1 q2 q3 q4 q5 q6
        refine ⟨⟨k0, k1, k2, c⟩, ⟨z1, i6_of z2, hc⟩, fun j v hv => ?_⟩
        have hj : j < 10 := (List.getElem?_eq_some_iff.1 hv).1
        have r := hcell j (by simpa using hj)
        rw [add_add] at r
        rw [r]
        exact hv
    have : Inhabited Hs := ⟨⟨0, ByteArray.empty, 0, ⟨0, ByteArray.empty, (0, 0), 0, 0, ByteArray.empty⟩⟩⟩
    obtain ⟨f, hfx⟩ := choose_lt each
    refine ⟨some a, m, (List.range len).map f, by simp, by simp; omega, fun hp => ?_, fun x hxm => ?_⟩
    case refine_2 =>
      obtain ⟨i, hi, rfl⟩ := List.mem_map.1 hxm
      exact (hfx i (List.mem_range.1 hi)).1
    simp only [List.length_map, List.length_range] at hp
    obtain ⟨b, off, spot⟩ := a
    have c0 := (hfx 0 hp).2 0 _ rfl
    have hspot : spot = none := by simpa [Addr.add] using World.cell?_spot c0
    subst hspot
    refine ⟨b, off, rfl, ?_, fun i x hix j v hv => ?_⟩
    · have := World.block_lt_of_cell? _ _ c0
      simpa [Addr.add] using this
    · have hi : i < len := by
        have := (List.getElem?_eq_some_iff.1 hix).1
        simpa using this
      have e : x = f i := by
        rw [List.getElem?_map, List.getElem?_range hi] at hix
        exact (Option.some.inj hix).symm
      subst e
      have := (hfx i hi).2 j v hv
      rw [add_plain] at this
      exact this
end Go.Proofs.YthaggkmammfpbaaGreatDoor.Pa

namespace Go.Proofs.YthaggkmammfpbaaGreatDoor.Pa
open Go.RowKit Go.Maps Vs

def cq : Cl := ⟨1, ⟨#[113]⟩, (0, 0), 0, 0, ⟨#[111]⟩⟩
theorem cq_ok : onF (dk0 100000) cq = 0 ∧ onN (dk0 100000) cq = 1 := by decide +kernel
/-- Two halls that have been asked the same. -/
structure H2 (T : Td) (w : World) (c : Cl) (X Y : Nat) (wx : World) (dx dy : Dk) : Prop where
  ex : ∃ GX GY, Hl T wx GX X dx [] ∧ Hl T wx GY Y dy [] ∧ (∀ j, GX j → ¬ GY j) ∧ (∀ j, GX j → w.heap.size < j) ∧ (∀ j, GY j → w.heap.size < j)
  cb : Cb wx w.heap.size c
  bl : Below w.heap.size w wx
section
variable {T : Td} {w wx w' : World} {c : Cl} {X Y : Nat} {dx dy : Dk}
theorem H2.swap (h : H2 T w c X Y wx dx dy) : H2 T w c Y X wx dy dx := by
  obtain ⟨GX, GY, h1, h2, h3, h4, h5⟩ := h.ex
  exact ⟨⟨GY, GX, h2, h1, fun j hj q => h3 j q hj, h5, h4⟩, h.cb, h.bl⟩
theorem H2.step (V : DFace T) (h : H2 T w c X Y wx dx dy) (hb : Below wx.heap.size wx w') : H2 T w c X Y w' dx dy := by
  obtain ⟨GX, GY, h1, h2, h3, h4, h5⟩ := h.ex
  exact ⟨⟨GX, GY, h1.step V hb, h2.step V hb, h3, h4, h5⟩, h.cb.step hb, below_via h.bl hb⟩
theorem H2.once (V : DFace T) {k : Nat} (x : Cl) (h : H2 T w c X Y wx dx dy) (dp : Dp k dx) (hk : k ≤ 800) :
    Calls Tryz.prog 37 #[.pointer (some ⟨X, 0, none⟩), clV x] wx fun e w' => ∃ pu cu, e = .returned (.tuple #[anV (onA dx x) (.slice pu (onA dx x).l.length cu), .int .i64 (onN dx x), ev (onF dx x)]) ∧ H2 T w c X Y w' (onD dx x) dy := by
  obtain ⟨GX, GY, h1, h2, h3, h4, h5⟩ := h.ex
  refine (hallOnce V x h1 dp.ok (Nat.le_trans dp.wl hk) (by have := dp.ids; omega) dp.spz).mono ?_
  rintro e w' ⟨u, rfl, row, G', g1, g2, g3⟩
  obtain ⟨pu, cu, rfl⟩ := own_form row
  have s := g3.size
  have lc := h.cb.lt
  refine ⟨pu, cu, rfl, ⟨G', GY, g1, h2.but V g3 (fun j hj q => h3 j q hj) g1.en, fun j hj q => ?_, fun j hj => ?_, h5⟩, h.cb.but g3 (fun q => by have := h4 _ q; omega), But.under2 h.bl g3 h.bl.size (fun i hi q => by have := h4 i q; omega)⟩
  · rcases g2 j hj with z | z
    · exact h3 j z q
    · have := h2.lt q
      have := z.1
      omega
  · rcases g2 j hj with z | z
    · exact h4 j z
    · have := z.1
      omega
set_option maxRecDepth 100000 in
set_option maxHeartbeats 4000000 in
theorem law_once (V : DFace T) (l : List Hs) (p : Option Addr) (cp : Nat) (c : Cl) (w : World) (hll : l.length ≤ 9223372036854775807) (hs : HsAt w p l) (en : En w) :
    Calls Tryz.prog 7 #[.slice p l.length cp, clV c] w fun e w' => e = .returned (.bool true) ∧ Below w.heap.size w w' := by
  obtain ⟨W0, hW0⟩ : ∃ W0, W0 = w.alloc (.cells (clA c) 33) := ⟨_, rfl⟩
  have bC : Below w.heap.size w W0 := by rw [hW0]; exact below_al (below_self w) _
  have cb0 : Cb W0 w.heap.size c := by rw [hW0]; exact Cb.new w c _
  have sC : W0.heap.size = w.heap.size + 1 := by rw [hW0]; simp
  have d0 := Dp.new (room := 100000) (by decide) (by decide)
  have oc1 := Oc.new.next cq
  have P0 := hallNew V 100000 (en.step bC) (by decide) (by decide)
  have P1 := fun {X Y : Nat} {wz : World} {dy : Dk} (h : H2 T w c X Y wz (dk0 100000) dy) => h.once V cq d0 (by decide)
  rw [cq_ok.1, cq_ok.2, ev_0] at P1
  generalize onA (dk0 100000) cq = a0 at P1
  generalize onD (dk0 100000) cq = d1 at P1 oc1
  go_enter Tryz.func7, Tryz.ntmps7
  go_wp2_with fail
  rw [← hW0]
  refine P0.mono ?_
  rintro e w1 ⟨X, GX, rfl, hX, lX, b1⟩
  have P2 := hallNew V 100000 hX.en (by decide) (by decide)
  clear P0 hW0
  go_wp2_with fail
  refine P2.mono ?_
  rintro e w2 ⟨Y, GY, rfl, hY, lY, b2⟩
  have h2 : H2 T w c X Y w2 (dk0 100000) (dk0 100000) := by
    have s1 := b1.size
    exact ⟨⟨GX, GY, hX.step V b2, hY, fun j hj q => by have := hX.lt hj; have := lY j q; omega, fun j hj => by have := lX j hj; omega, fun j hj => by have := lY j hj; omega⟩, (cb0.step b1).step b2, below_via (below_via bC b1) b2⟩
  have Q1 := P1 h2
  clear P2 hX hY lX lY b1 b2 bC cb0 sC h2 en
  go_wp2_with fail
  refine Q1.mono ?_
  rintro e w3 ⟨pu, cu, rfl, h3⟩
  have h4 := h3.step V (below_al (below_self w3) (.cells #[.int .i64 a0.p.1, .int .i64 a0.p.2, .int .i64 a0.ad, .string a0.ow, .slice pu a0.l.length cu] 48))
  have Q2 := P1 h4.swap
  clear Q1 h3
  go_wp2_with fail
  refine Q2.mono ?_
  rintro e w4 ⟨pv, cv, rfl, h5⟩
  have h6 := (h5.step V (below_al (below_self w4) (.cells #[.int .i64 a0.p.1, .int .i64 a0.p.2, .int .i64 a0.ad, .string a0.ow, .slice pv a0.l.length cv] 48))).swap
  clear Q2 h5 h4 P1
  go_upto_block 0 with fail
  go_cut [15] from 63 to 86 (fun _ wy => ∃ (k : Nat) (d : Dk), k ≤ 130 ∧ Oc k d ∧ H2 T w c X Y wy d d)
  case rest =>
    obtain ⟨k, d, hk, oc, h2⟩ := hcut
    obtain ⟨GX, GY, z1, z2, z3, z4, z5⟩ := h2.ex
    refine ‹∀ (a : Act) (w : World), Code.wp _ _ _ a w → _› _ _ ?_
    exact ho2 V z1 z2 z3 z4 z5 oc hk h2.cb h2.bl
  case first =>
  go_wp2_with fail
  go_loopw [15] (fun i wr => ∃ (k m : Nat) (d : Dk), k ≤ l.length ∧ k ≤ 40 ∧ i = .int .i64 k ∧ m ≤ 3 * k + 3 ∧ Oc m d ∧ H2 T w c X Y wr d d) (fun i _ => l.length - (intOf i).toNat)
  case atStart => exact ⟨0, 3, d1, by omega, by omega, rfl, by omega, oc1, h6⟩
  case round =>
    obtain ⟨k, m, d, hk, hk40, rfl, hm, oc, h2⟩ := hrel
    clear h6 oc1
    by_cases hlt : k < l.length ∧ k < 40
    · obtain ⟨hlt, hlt40⟩ := hlt
      have hlt' : (k : Int) < (l.length : Int) := by omega
      have hlt40' : (k : Int) < 40 := by omega
      have hs' : HsAt wr p l := hs.step h2.bl
      obtain ⟨b, off, rfl, hbl, hc⟩ := hs' (by omega)
      obtain ⟨x, hx⟩ : ∃ x, l[k]? = some x := ⟨l[k], List.getElem?_eq_getElem hlt⟩
      have r := hc k x hx
      have r3 := r 3 _ rfl
      rw [show off + (k * 10 + 3) = off + k * 10 + 3 by omega] at r3
      have r4 := r 4 _ rfl
      rw [show off + (k * 10 + 4) = off + k * 10 + 3 + 1 by omega] at r4
      have r5 := r 5 _ rfl
      rw [show off + (k * 10 + 5) = off + k * 10 + 3 + 2 by omega] at r5
      have r6 := r 6 _ rfl
      rw [show off + (k * 10 + 6) = off + k * 10 + 3 + 3 by omega] at r6
      have r7 := r 7 _ rfl
      rw [show off + (k * 10 + 7) = off + k * 10 + 3 + 4 by omega] at r7
      have r8 := r 8 _ rfl
      rw [show off + (k * 10 + 8) = off + k * 10 + 3 + 5 by omega] at r8
      have r9 := r 9 _ rfl
      rw [show off + (k * 10 + 9) = off + k * 10 + 3 + 6 by omega] at r9
      have P1 := h2.once V x.c oc.dp (by omega)
      have P2 := fun {wz : World} {dx : Dk} (h : H2 T w c Y X wz d dx) => h.once V x.c oc.dp (by omega)
      have oc' := oc.next x.c
      go_wp2_with fail
      refine P1.mono ?_
      rintro e w1 ⟨pu, cu, rfl, h3⟩
      have hz : HsAt w1 (some ⟨b, off, none⟩) l := hs.step h3.bl
      obtain ⟨b', off', hbo, hbl', hc'⟩ := hz (by omega)
      cases hbo
      clear r r3 r4 r5 r6 r7 r8 r9 P1 hc
      have r := hc' k x hx
      have r3 := r 3 _ rfl
      rw [show off + (k * 10 + 3) = off + k * 10 + 3 by omega] at r3
      have r4 := r 4 _ rfl
      rw [show off + (k * 10 + 4) = off + k * 10 + 3 + 1 by omega] at r4
      have r5 := r 5 _ rfl
      rw [show off + (k * 10 + 5) = off + k * 10 + 3 + 2 by omega] at r5
      have r6 := r 6 _ rfl
      rw [show off + (k * 10 + 6) = off + k * 10 + 3 + 3 by omega] at r6
      have r7 := r 7 _ rfl
      rw [show off + (k * 10 + 7) = off + k * 10 + 3 + 4 by omega] at r7
      have r8 := r 8 _ rfl
      rw [show off + (k * 10 + 8) = off + k * 10 + 3 + 5 by omega] at r8
      have r9 := r 9 _ rfl
      rw [show off + (k * 10 + 9) = off + k * 10 + 3 + 6 by omega] at r9
      have Q2 := P2 h3.swap
      go_wp2_with fail
      refine Q2.mono ?_
      rintro e w2 ⟨pv, cv, rfl, h4⟩
      clear Q2 P2 r r3 r4 r5 r6 r7 r8 r9
      go_wp2_with fail
      exact ⟨⟨k + 1, m + 3, _, by omega, by omega, by go_num, by omega, oc', h4.swap⟩, by simp [intOf]; omega⟩
    · by_cases h1 : k < l.length
      · have g1 : decide ((k : Int) < (l.length : Int)) = true := by simp; omega
        have g2 : decide ((k : Int) < 40) = false := by simp; omega
        go_wp2_with fail
        go_meet
        case rel => exact ⟨m, d, by omega, oc, h2⟩
      · have g1 : decide ((k : Int) < (l.length : Int)) = false := by simp; omega
        go_wp2_with fail
        go_meet
        case rel => exact ⟨m, d, by omega, oc, h2⟩
end
end Go.Proofs.YthaggkmammfpbaaGreatDoor.Pa

