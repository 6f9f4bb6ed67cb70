/- An argument that is steps, or a call, opened. -/
import Derived.Test.YthaggkmammfpbaaGreatDoorEAdCutMath
import Derived.Test.YthaggkmammfpbaaGreatDoorEPlR
import Derived.Test.YthaggkmammfpbaaGreatDoorRows
import Derived.ProofKit
import Derived.OpenShut
import Derived.Deep.SlicePairs
import Derived.ChangeMaps5
import Derived.Carry
import Derived.Test.YthaggkmammfpbaaGreatDoorEHlG
namespace Go.Proofs.YthaggkmammfpbaaGreatDoor.Pa
open Go.ChangeShapes Go.WideShapes Go.ChangeAt Go.RowKit Go.Deep Vs

structure Hs where
  what : Int
  who : ByteArray
  n : Int
  c : Cl
def hsL (x : Hs) : List Value := [.int .i64 x.what, .string x.who, .int .i64 x.n, .int .i64 x.c.what, .string x.c.nm, .int .i64 x.c.p.1, .int .i64 x.c.p.2, .int .i64 x.c.len, .int .i64 x.c.ad, .string x.c.ow]
def I6 (i : Int) : Prop := -9223372036854775808 ≤ i ∧ i ≤ 9223372036854775807
structure ClOk (c : Cl) : Prop where
  nm : c.nm.size ≤ maxLen
  ow : c.ow.size ≤ maxLen
  wh : I6 c.what
  p1 : I6 c.p.1
  p2 : I6 c.p.2
  ln : I6 c.len
  ad : I6 c.ad
structure HsOk (x : Hs) : Prop where
  who : x.who.size ≤ maxLen
  n : I6 x.n
  c : ClOk x.c
def HsC (w : World) (b off : Nat) (l : List Hs) : Prop := ∀ i x, l[i]? = some x → ∀ j v, (hsL x)[j]? = some v → w.cell? ⟨b, off + (i * 10 + j), none⟩ = some v
def HsAt (w : World) (p : Option Addr) (l : List Hs) : Prop := 0 < l.length → ∃ b off, p = some ⟨b, off, none⟩ ∧ b < w.heap.size ∧ HsC w b off l
theorem HsAt.step {w w' : World} {p : Option Addr} {l : List Hs} (h : HsAt w p l) (hb : Below w.heap.size w w') : HsAt w' p l := fun hl => by
  obtain ⟨b, off, rfl, h1, h2⟩ := h hl
  exact ⟨b, off, rfl, Nat.lt_of_lt_of_le h1 hb.size, fun i x hx j v hv => (hb.cell (p := ⟨b, off + (i * 10 + j), none⟩) h1).trans (h2 i x hx j v hv)⟩
theorem hs_cells : Tryz.prog.cellsOf 35 = 10 := by kernel_rfl
theorem call_cells : Tryz.prog.cellsOf 33 = 7 := by kernel_rfl
theorem pfx_cells : Tryz.prog.cellsOf 31 = 2 := by kernel_rfl
theorem hint_cells : Tryz.prog.cellsOf 3 = 1 := by kernel_rfl
theorem hstr_cells : Tryz.prog.cellsOf 9 = 1 := by kernel_rfl
theorem hlaid_out : laidOutB Tryz.prog = true := by kernel_rfl
theorem i6_of {i : Int} (h : (Lit.int .i64 i).wf = true) : I6 i := by
  simpa [Lit.wf, I6, show IntKind.i64.min = -9223372036854775808 from rfl, show IntKind.i64.max = 9223372036854775807 from rfl] using h
theorem open_pfx {H : Type} {enc : TypeId × Value → H} {W : World} {k : Nat} {v0 v1 : Value} {y : DataW H × List MemPlace} (h : DataW.trod enc Tryz.prog W 0 (fun _ => true) true k 31 [v0, v1] = some y) : ∃ a b : Int, v0 = .int .i64 a ∧ v1 = .int .i64 b ∧ I6 a ∧ I6 b := by
  obtain ⟨xs, k, hk, hxy, _, hxl, hfl⟩ := DataW.trod_struct Tryz.underlying31 h
  match xs, hxl with
  | [y0, y1], _ =>
    have g0 := hfl 0 _ rfl
    have g1 := hfl 1 _ rfl
    simp [hint_cells] at g0 g1
    obtain ⟨k0, e0, _, z0⟩ := DataW.trod_int Tryz.underlying3 g0
    obtain ⟨k1, e1, _, z1⟩ := DataW.trod_int Tryz.underlying3 g1
    simp only [List.cons.injEq, and_true] at e0 e1
    exact ⟨k0, k1, e0, e1, i6_of z0, i6_of z1⟩
theorem open_callC {H : Type} {enc : TypeId × Value → H} {W : World} {k : Nat} {v0 v1 v2 v3 v4 v5 v6 : Value} {y : DataW H × List MemPlace} (h : DataW.trod enc Tryz.prog W 0 (fun _ => true) true k 33 [v0, v1, v2, v3, v4, v5, v6] = some y) :
    ∃ c : Cl, ClOk c ∧ v0 = .int .i64 c.what ∧ v1 = .string c.nm ∧ v2 = .int .i64 c.p.1 ∧ v3 = .int .i64 c.p.2 ∧ v4 = .int .i64 c.len ∧ v5 = .int .i64 c.ad ∧ v6 = .string c.ow := by
  obtain ⟨xs, k, hk, hxy, _, hxl, hfl⟩ := DataW.trod_struct Tryz.underlying33 h
  match xs, hxl with
  | [y0, y1, y2, y3, y4, y5], _ =>
    have g0 := hfl 0 _ rfl
    have g1 := hfl 1 _ rfl
    have g2 := hfl 2 _ rfl
    have g3 := hfl 3 _ rfl
    have g4 := hfl 4 _ rfl
    have g5 := hfl 5 _ rfl
    simp [hint_cells, hstr_cells, pfx_cells] at g0 g1 g2 g3 g4 g5
    obtain ⟨k0, e0, _, z0⟩ := DataW.trod_int Tryz.underlying3 g0
    obtain ⟨k1, e1, _, z1⟩ := DataW.trod_string Tryz.underlying9 g1
    obtain ⟨a, b, e2, e3, z2, z3⟩ := open_pfx g2
    obtain ⟨k4, e4, _, z4⟩ := DataW.trod_int Tryz.underlying3 g3
    obtain ⟨k5, e5, _, z5⟩ := DataW.trod_int Tryz.underlying3 g4
    obtain ⟨k6, e6, _, z6⟩ := DataW.trod_string Tryz.underlying9 g5
    simp only [List.cons.injEq, and_true] at e0 e1 e4 e5 e6
    exact ⟨⟨k0, k1, (a, b), k4, k5, k6⟩, ⟨z1, z6, i6_of z0, z2, z3, i6_of z4, i6_of z5⟩, e0, e1, e2, e3, e4, e5, e6⟩
set_option maxRecDepth 100000 in
theorem open_hs {H : Type} {enc : TypeId × Value → H} {W : World} {base : Nat} {v : Value} {d : DataW H} {ps : List MemPlace} (hval : Value.okWide Tryz.prog W .any base 22 v) (h : DataW.Trod enc Tryz.prog W 0 (fun _ => true) true 22 v d ps) :
    ∃ (p : Option Addr) (cap : Nat) (l : List Hs), v = .slice p l.length cap ∧ l.length ≤ maxLen ∧ HsAt W p l ∧ ∀ x ∈ l, HsOk x := by
  obtain ⟨a0, len, cap, rfl⟩ := okWide_slice Tryz.underlying22 hval
  obtain ⟨fuel, hf⟩ := h
  rcases open_slice Tryz.underlying22 hf with ⟨h0, _⟩ | ⟨a, len', cap', m, n, D, Pl, hcs, _, hl, hm, hmm, hxd, hx⟩
  · simp [Value.cells] at h0
    obtain ⟨rfl, rfl, rfl⟩ := h0
    exact ⟨none, 0, [], rfl, by simp, fun h => by simp at h, fun x h => by simp at h⟩
  · simp [Value.cells] at hcs
    obtain ⟨rfl, rfl, rfl⟩ := hcs
    simp only [if_true] at hmm
    subst hmm
    have each : ∀ i, i < len → ∃ x : Hs, HsOk x ∧ ∀ j v, (hsL x)[j]? = some v → W.cell? (a.add (i * 10 + j)) = some v := by
      intro i hi
      obtain ⟨cs', h1, h2⟩ := hx i (by omega)
      rw [hs_cells] at h1
      obtain ⟨_, hlen, hcell⟩ := World.cells?_some h1
      obtain ⟨xs, k, hk, hxy, _, hxl, hfl⟩ := DataW.trod_struct Tryz.underlying35 h2
      match xs, hxl, cs', hlen with
      | [y0, y1, y2, y3], _, [v0, v1, v2, v3, v4, v5, v6, v7, v8, v9], _ =>
        have g0 := hfl 0 _ rfl
        have g1 := hfl 1 _ rfl
        have g2 := hfl 2 _ rfl
        have g3 := hfl 3 _ rfl
        simp [hint_cells, hstr_cells, call_cells] at g0 g1 g2 g3
        obtain ⟨k0, e0, _, _⟩ := DataW.trod_int Tryz.underlying3 g0
        obtain ⟨k1, e1, _, z1⟩ := DataW.trod_string Tryz.underlying9 g1
        obtain ⟨k2, e2, _, z2⟩ := DataW.trod_int Tryz.underlying3 g2
        obtain ⟨c, hc, q0, q1, q2, q3, q4, q5, q6⟩ := open_callC g3
        simp only [List.cons.injEq, and_true] at e0 e1 e2
        subst e0 e1 e2 q0 q1 q2 q3 q4 q5 q6
        refine ⟨⟨k0, k1, k2, c⟩, ⟨z1, i6_of z2, hc⟩, fun j v hv => ?_⟩
        have hj : j < 10 := (List.getElem?_eq_some_iff.1 hv).1
        have r := hcell j (by simpa using hj)
        rw [add_add] at r
        rw [r]
        exact hv
    have : Inhabited Hs := ⟨⟨0, ByteArray.empty, 0, ⟨0, ByteArray.empty, (0, 0), 0, 0, ByteArray.empty⟩⟩⟩
    obtain ⟨f, hfx⟩ := choose_lt each
    refine ⟨some a, m, (List.range len).map f, by simp, by simp; omega, fun hp => ?_, fun x hxm => ?_⟩
    case refine_2 =>
      obtain ⟨i, hi, rfl⟩ := List.mem_map.1 hxm
      exact (hfx i (List.mem_range.1 hi)).1
    simp only [List.length_map, List.length_range] at hp
    obtain ⟨b, off, spot⟩ := a
    have c0 := (hfx 0 hp).2 0 _ rfl
    have hspot : spot = none := by simpa [Addr.add] using World.cell?_spot c0
    subst hspot
    refine ⟨b, off, rfl, ?_, fun i x hix j v hv => ?_⟩
    · have := World.block_lt_of_cell? _ _ c0
      simpa [Addr.add] using this
    · have hi : i < len := by
        have := (List.getElem?_eq_some_iff.1 hix).1
        simpa using this
      have e : x = f i := by
        rw [List.getElem?_map, List.getElem?_range hi] at hix
        exact (Option.some.inj hix).symm
      subst e
      have := (hfx i hi).2 j v hv
      rw [add_plain] at this
      exact this
end Go.Proofs.YthaggkmammfpbaaGreatDoor.Pa

namespace Go.Proofs.YthaggkmammfpbaaGreatDoor.Pa
open Go.RowKit Go.Maps Vs

def cxo : Cl := ⟨1, ⟨#[120]⟩, (0, 0), 0, 0, ⟨#[111]⟩⟩
theorem cxo_ok : onF (dk0 100000) cxo = 0 := by decide +kernel
theorem cxo_no : onF (onD (dk0 100000) cxo) cxo = 6 := by decide +kernel
section
variable {T : Td} {K : Nat → Prop} {H bP k : Nat} {p : Bur.Sp} {d : Dk} {w wx : World} {a : Int} {ap : Bool}
theorem z_del (i : Int) : sDel [(zz, i)] zz = [] := if_pos rfl
theorem zo {k : Nat} {d : Dk} (oc : Oc k d) : hoF d [] zz = 0 ∧ hoD d [] zz = bgD d ∧ hoS d [] zz = [(zz, (ox0 (d.ids + 1) d.last).id)] := by
  obtain ⟨b1, b2, _⟩ := oc.open
  have f0 : hoF d [] zz = 0 := by unfold hoF; rw [if_pos zz_n, if_neg (by simp [sId])]; exact b1
  refine ⟨f0, if_pos ⟨zz_n, rfl⟩, ?_⟩
  unfold hoS
  rw [if_pos f0, b2]
  rfl
set_option maxRecDepth 100000 in
set_option maxHeartbeats 4000000 in
theorem pb2 (V : DFace T) {c0 c1 c4 c6 c7 c8 c10 c11 c12 c13 c14 c15 c16 c17 c18 c19 c20 c21 c22 c23 c24 c25 c26 c27 c28 c29 c30 c31 c32 c33 c34 c35 c36 c37 c38 c39 c40 c41 c42 c43 c44 c45 c46 c47 c48 c49 c50 c51 c52 c53 c54 c55 c56 c57 c58 c59 c60 c61 c62 c63 c64 c65 c66 c67 c68 c69 c70 c71 c72 c73 c74 c75 c76 c77 c78 c79 c80 c81 c82 c83 c84 c85 c86 c87 c88 c89 c90 c91 c92 c93 c94 c95 c96 c97 c98 c99 c100 c101 c102 c103 c104 c105 c106 c107 c108 c109 c110 c111 c112 c113 c114 c115 c116 c117 c118 c119 c120 c121 c122 c123 c124 c125 c126 c127 c128 c129 c130 c131 c132 c133 c134 c135 c136 c137 c138 c139 c140 c141 c142 c143 c144 c145 c146 c147 c148 c149 c150 c151 c152 c153 c154 c155 c156 : Value}
    (h : H1 T w K wx H d []) (oc : Oc k d) (hk : k ≤ 140) (kp : K bP) (pq : Pq wx bP p) (et : ErrType w) :
    Code.wp Tryz.prog (dropSeq 8 (Tryz.f6.body.getD .skip)) (bodyPost Tryz.prog Tryz.f6 fun e w' => e = .returned (.bool true) ∧ Below w.heap.size w w') ⟨#[c0, c1, .int .i64 a, .bool ap, c4, .pointer (some ⟨bP, 0, none⟩), c6, c7, c8, .pointer (some ⟨H, 0, none⟩), c10, c11, c12, c13, c14, c15, c16, c17, c18, c19, c20, c21, c22, c23, c24, c25, c26, c27, c28, c29, c30, c31, c32, c33, c34, c35, c36, c37, c38, c39, c40, c41, c42, c43, c44, c45, c46, c47, c48, c49, c50, c51, c52, c53, c54, c55, c56, c57, c58, c59, c60, c61, c62, c63, c64, c65, c66, c67, c68, c69, c70, c71, c72, c73, c74, c75, c76, c77, c78, c79, c80, c81, c82, c83, c84, c85, c86, c87, c88, c89, c90, c91, c92, c93, c94, c95, c96, c97, c98, c99, c100, c101, c102, c103, c104, c105, c106, c107, c108, c109, c110, c111, c112, c113, c114, c115, c116, c117, c118, c119, c120, c121, c122, c123, c124, c125, c126, c127, c128, c129, c130, c131, c132, c133, c134, c135, c136, c137, c138, c139, c140, c141, c142, c143, c144, c145, c146, c147, c148, c149, c150, c151, c152, c153, c154, c155, c156], []⟩ wx := by
  conv => arg 2; whnf
  have P1 := h.all V oc.dp (by omega)
  have wl := pair_lens oc.dp (by omega)
  go_wp2_with fail
  refine P1.mono ?_
  rintro e w1 ⟨q, cq, rfl, hcq, pr, b1⟩
  have h1 := h.step V b1
  obtain ⟨K1, hK1⟩ : ∃ K1 : Nat → Prop, K1 = (fun j => K j ∨ (wx.heap.size ≤ j ∧ j < w1.heap.size)) := ⟨_, rfl⟩
  rw [← hK1] at h1
  have pw : PrIn K1 w1 q (allP d) := by rw [hK1]; exact pr.mono (fun j hj hg => .inr ⟨hg, hj⟩)
  have kp1 : K1 bP := by rw [hK1]; exact .inl kp
  have pq1 := pq.step b1
  clear hK1
  clear P1 h kp pq pr hcq b1
  obtain ⟨z1, z2, z3⟩ := zo oc
  obtain ⟨b1, b2, sg0, vs0, la0⟩ := oc.open
  have P2 := h1.open V zz oc.dp (by omega) (by decide) (by decide)
  rw [z1, z2, z3, ev_0] at P2
  have A0 := allAt_is oc.dp.ok.tb d.last
  rw [← allP_at] at A0
  clear z1 z2 z3 b1 b2
  go_wp2_with fail
  refine P2.mono ?_
  rintro e w2 ⟨rfl, h2, bt2⟩
  have zb : Bz T w K1 w2 H bP p q (allP d) (k + 1) (bgD d) (ox0 (d.ids + 1) d.last) := ⟨h2, sg0, by omega, kp1, pq1.but bt2 (fun g => g kp1), pw.but bt2 (fun j _ hj g => g hj), wl⟩
  have S0 : ∀ key, seeO (bgD d).vs (ox0 (d.ids + 1) d.last).sees (ox0 (d.ids + 1) d.last).own key = vget d.vs key d.last := fun key => by rw [vs0]; rfl
  generalize allP d = W0 at zb A0 wl
  clear P2 h1 h2 pw pq1 bt2 sg0 vs0 la0 wl
  have OWN := zb.sg.ris
  have P3 := zb.ask V (cAdd p) (by omega)
  have t := lo_add (cAdd p) rfl (show nw.size ≤ 12 by decide) (bgD d).vs (ox0 (d.ids + 1) d.last) (by show (0 : Int) < 90; decide) (by show 0 < 10; decide)
  obtain ⟨R, hR⟩ : ∃ R, R = loR (doP (cAdd p)) (bgD d).vs (ox0 (d.ids + 1) d.last) := ⟨_, rfl⟩
  rw [← hR] at t P3
  obtain ⟨ra, rf, o'⟩ := R
  simp only at t P3
  clear hR
  obtain ⟨c0, c1⟩ := id zb.pq
  rcases t with hne | ⟨hc, hn, hpn, h0, how, bt⟩
  · rw [ev_ne hne] at P3
    go_wp2_with fail
    refine P3.mono ?_
    rintro e w3 ⟨pu, cu, rfl, d', y, _⟩
    have bl := y.h.bl
    clear P3 y zb c0 c1
    go_wp2_with fail
    go_ret
    exact ⟨rfl, bl⟩
  · rw [h0, ev_0] at P3
    go_wp2_with fail
    refine P3.mono ?_
    rintro e w3 ⟨pu, cu, rfl, d', y, hvs⟩
    have hf : Bur.fault p.1 p.2 = 0 := by rw [← cl_add]; exact hc
    have S1 : ∀ key, seeO d'.vs o'.sees o'.own key = if key = kP nx p then some nw else vget d.vs key d.last := fun key => by
      rw [hvs, how, bt.se, see_ins OWN, ← S0]
      rfl
    have bv : ∀ {vs : List Ver} {o2 : Ox}, (∀ key, seeO vs o2.sees o2.own key = seeO d'.vs o'.sees o'.own key) → Bv vs o2 p W0 := fun e => by
      refine ⟨hf, ?_, ⟨nw, ?_⟩, A0.1, fun x => ?_⟩
      · rw [e, S1, if_neg (np_ne nx p), ← S0]; exact hn
      · rw [e, S1, if_pos rfl]
      · rw [A0.2, e, S1]
        by_cases ek : x.1 = kP nx p
        · rw [if_pos ek, ek, ← S0]
          have e5 : seeO (bgD d).vs (ox0 (d.ids + 1) d.last).sees (ox0 (d.ids + 1) d.last).own (kP nx p) = none := hpn
          rw [e5]
        · rw [if_neg ek, if_neg ek]
    have BV : Hid _ := @bv
    have hask : o'.asked < 20 := by have := bt.ask; have e6 : (ox0 (d.ids + 1) d.last).asked = 0 := rfl; rw [e6] at this; omega
    have hlen : o'.own.length < 3 := by have := bt.len; have e6 : (ox0 (d.ids + 1) d.last).own.length = 0 := rfl; rw [e6] at this; omega
    clear P3 c0 c1 bv S1 hf how bt hn hpn hc h0 OWN zb S0 A0
    cases ap with
    | false =>
      go_upto_if 85 with fail
      go_cut [13, 16] (fun _ _ wy => wy = w3)
      case first =>
        go_wp2_with fail
        go_meet
        case rel => rfl
      case rest =>
        subst hcut
        refine ‹∀ (a : Act) (w : World), Code.wp _ _ _ a w → _› _ _ ?_
        exact pb3 V y (by omega) (BV.out (fun _ => rfl)) hask hlen et
    | true =>
      obtain ⟨m1, m2, m3⟩ := y.sg.cm (by omega)
      have e1 : hcF d' [(zz, o'.id)] zz = 0 := by unfold hcF; rw [z_id]; exact m1
      have e3 : hcD d' [(zz, o'.id)] zz = cmD d' o'.id := by unfold hcD; rw [z_id]
      have P4 := y.h.close V zz y.sg.dp (by omega) (by decide)
      rw [e1, e3, ev_0, z_del] at P4
      obtain ⟨z1, z2, z3⟩ := zo m2
      obtain ⟨_, _, sg1, vs1, la1⟩ := m2.open
      have P5 := fun {wy : World} (h : H1 T w K1 wy H (cmD d' o'.id) []) => h.open V zz m2.dp (by omega) (by decide) (by decide)
      rw [z1, z2, z3, ev_0] at P5
      have bv2 : Bv (bgD (cmD d' o'.id)).vs (ox0 ((cmD d' o'.id).ids + 1) (cmD d' o'.id).last) p W0 := BV.out (fun key => by
        rw [vs1]
        exact m3 key)
      generalize hcN d' [(zz, o'.id)] zz = nn at P4
      clear e1 e3 z1 z2 z3 m1 m3 vs1 la1
      have FIN : ∀ {w4 w5 : World}, But (fun j => ¬ K1 j) w3 w4 → But (fun j => ¬ K1 j) w4 w5 → H1 T w K1 w5 H (bgD (cmD d' o'.id)) [(zz, (ox0 ((cmD d' o'.id).ids + 1) (cmD d' o'.id).last).id)] → Bz T w K1 w5 H bP p q W0 (k + 1 + 1 + 2 + 1) (bgD (cmD d' o'.id)) (ox0 ((cmD d' o'.id).ids + 1) (cmD d' o'.id).last) := fun x1 x2 x3 =>
        ⟨x3, sg1, by omega, kp1, (y.pq.but x1 (fun g => g kp1)).but x2 (fun g => g kp1), (y.pw.but x1 (fun j _ hj g => g hj)).but x2 (fun j _ hj g => g hj), y.wl⟩
      have FH : Hid _ := @FIN
      have B2 : Hid _ := bv2
      clear FIN bv2 sg1 m2
      go_upto_if 85 with fail
      go_cut [13, 16] (fun _ _ wy => Hid (Bz T w K1 wy H bP p q W0 (k + 1 + 1 + 2 + 1) (bgD (cmD d' o'.id)) (ox0 ((cmD d' o'.id).ids + 1) (cmD d' o'.id).last)))
      case rest =>
        refine ‹∀ (a : Act) (w : World), Code.wp _ _ _ a w → _› _ _ ?_
        exact pb3 V hcut.out (by omega) B2.out (by show (0 : Int) < 20; decide) (by show 0 < 3; decide) et
      case first =>
        clear y
        go_wp2_with fail
        refine P4.mono ?_
        rintro e w4 ⟨rfl, h4, bt4⟩
        have P6 := P5 h4
        clear P4 P5 h4
        go_wp2_with fail
        refine P6.mono ?_
        rintro e w5 ⟨rfl, h5, bt5⟩
        clear P6
        have BZ : Hid _ := FH.out bt4 bt5 h5
        clear h5 bt4 bt5
        go_wp2_with fail
        go_meet
        case rel => exact BZ
set_option maxRecDepth 100000 in
set_option maxHeartbeats 4000000 in
theorem law_back (V : DFace T) (l : List Hs) (pl : Option Addr) (cl : Nat) (p : Bur.Sp) (a : Int) (ap : Bool) (w : World) (hll : l.length ≤ 9223372036854775807) (hs : HsAt w pl l) (en : En w) (et : ErrType w) :
    Calls Tryz.prog 6 #[.slice pl l.length cl, .agg #[.int .i64 p.1, .int .i64 p.2], .int .i64 a, .bool ap] w fun e w' => e = .returned (.bool true) ∧ Below w.heap.size w w' := by
  obtain ⟨W0, hW0⟩ : ∃ W0, W0 = w.alloc (.cells #[.int .i64 p.1, .int .i64 p.2] 31) := ⟨_, rfl⟩
  have bC : Below w.heap.size w W0 := by rw [hW0]; exact below_al (below_self w) _
  have pq0 : Pq W0 w.heap.size p := by rw [hW0]; exact ⟨by simp, by simp⟩
  have sC : W0.heap.size = w.heap.size + 1 := by rw [hW0]; simp
  obtain ⟨K, hK⟩ : ∃ K : Nat → Prop, K = fun j => j < w.heap.size + 1 := ⟨_, rfl⟩
  have P0 := H1.new V 100000 w W0 K (en.step bC) (by decide) (by decide) (fun j hj => by rw [hK] at hj; have hj' : j < w.heap.size + 1 := hj; omega) (fun j hj => by rw [hK]; show j < w.heap.size + 1; omega) bC
  have kp : K w.heap.size := by rw [hK]; show w.heap.size < w.heap.size + 1; omega
  clear hK
  have d0 := Dp.new (room := 100000) (by decide) (by decide)
  have oc1 := Oc.new.next cxo
  have oc2 := oc1.next cxo
  have P1 := fun {wz : World} {H : Nat} (h : H1 T w K wz H (dk0 100000) []) => h.once V cxo d0 (by decide)
  have P2 := fun {wz : World} {H : Nat} (h : H1 T w K wz H (onD (dk0 100000) cxo) []) => h.once V cxo oc1.dp (by decide)
  rw [cxo_ok, ev_0] at P1
  rw [cxo_no, show ev 6 = errN 6 from rfl] at P2
  generalize onA (onD (dk0 100000) cxo) cxo = a2 at P2
  generalize onN (onD (dk0 100000) cxo) cxo = n2 at P2
  generalize onD (onD (dk0 100000) cxo) cxo = d2 at P2 oc2
  generalize onA (dk0 100000) cxo = a1 at P1
  generalize onN (dk0 100000) cxo = n1 at P1
  generalize onD (dk0 100000) cxo = d1 at P1 P2 oc1
  go_enter Tryz.func6, Tryz.ntmps6
  go_wp2_with fail
  rw [← hW0]
  refine P0.mono ?_
  rintro e w1 ⟨H, rfl, h1, b1⟩
  have pq1 := pq0.step b1
  have Q1 := P1 h1
  clear P0 hW0 P1 pq0 b1 bC sC
  go_wp2_with fail
  refine Q1.mono ?_
  rintro e w2 ⟨u1, rfl, row1, h2, bt2⟩
  obtain ⟨pu, cu, rfl⟩ := own_form row1
  have bA := below_al (below_self w2) (.cells #[.int .i64 a1.p.1, .int .i64 a1.p.2, .int .i64 a1.ad, .string a1.ow, .slice pu a1.l.length cu] 48)
  have pq2 := (pq1.but bt2 (fun g => g kp)).step bA
  have Q2 := P2 (h2.same V bA)
  clear Q1 P2 h2 bt2 pq1 h1 row1 bA
  go_wp2_with fail
  refine Q2.mono ?_
  rintro e w3 ⟨u2, rfl, row2, h3, bt3⟩
  obtain ⟨pv, cv, rfl⟩ := own_form row2
  have bB := below_al (below_self w3) (.cells #[.int .i64 a2.p.1, .int .i64 a2.p.2, .int .i64 a2.ad, .string a2.ow, .slice pv a2.l.length cv] 48)
  have pq3 := (pq2.but bt3 (fun g => g kp)).step bB
  have h4 := h3.same V bB
  have Q3 := error_hit 6 6 _ (et_of et h4.bl)
  clear Q2 h3 bt3 pq2 row2 bB
  go_wp2_with fail
  refine Q3.mono ?_
  rintro e w4 ⟨rfl, b4⟩
  have h5 := h4.same V b4
  have pq4 := pq3.step b4
  clear Q3 h4 pq3 b4
  go_upto_block 0 with fail
  go_cut [18] from 53 to 69 (fun _ wy => ∃ (k : Nat) (d : Dk), k ≤ 140 ∧ Oc k d ∧ H1 T w K wy H d [] ∧ Pq wy w.heap.size p)
  case rest =>
    obtain ⟨k, d, hk, oc, h6, pq5⟩ := hcut
    refine ‹∀ (a : Act) (w : World), Code.wp _ _ _ a w → _› _ _ ?_
    exact pb2 V h6 oc hk kp pq5 et
  case first =>
  go_wp2_with fail
  go_loopw [18] (fun i wr => ∃ (k m : Nat) (d : Dk), k ≤ l.length ∧ k ≤ 40 ∧ i = .int .i64 k ∧ m ≤ 3 * k + 6 ∧ Oc m d ∧ H1 T w K wr H d [] ∧ Pq wr w.heap.size p) (fun i _ => l.length - (intOf i).toNat)
  case atStart => exact ⟨0, 6, d2, by omega, by omega, rfl, by omega, oc2, h5, pq4⟩
  case round =>
    obtain ⟨k, m, d, hk, hk40, rfl, hm, oc, h6, pq5⟩ := hrel
    clear h5 pq4 oc1 oc2
    by_cases hlt : k < l.length ∧ k < 40
    · obtain ⟨hlt, hlt40⟩ := hlt
      have hlt' : (k : Int) < (l.length : Int) := by omega
      have hlt40' : (k : Int) < 40 := by omega
      have hs' : HsAt wr pl l := hs.step h6.bl
      obtain ⟨b, off, rfl, hbl, hc⟩ := hs' (by omega)
      obtain ⟨x, hx⟩ : ∃ x, l[k]? = some x := ⟨l[k], List.getElem?_eq_getElem hlt⟩
      have r := hc k x hx
      have r3 := r 3 _ rfl
      rw [show off + (k * 10 + 3) = off + k * 10 + 3 by omega] at r3
      have r4 := r 4 _ rfl
      rw [show off + (k * 10 + 4) = off + k * 10 + 3 + 1 by omega] at r4
      have r5 := r 5 _ rfl
      rw [show off + (k * 10 + 5) = off + k * 10 + 3 + 2 by omega] at r5
      have r6 := r 6 _ rfl
      rw [show off + (k * 10 + 6) = off + k * 10 + 3 + 3 by omega] at r6
      have r7 := r 7 _ rfl
      rw [show off + (k * 10 + 7) = off + k * 10 + 3 + 4 by omega] at r7
      have r8 := r 8 _ rfl
      rw [show off + (k * 10 + 8) = off + k * 10 + 3 + 5 by omega] at r8
      have r9 := r 9 _ rfl
      rw [show off + (k * 10 + 9) = off + k * 10 + 3 + 6 by omega] at r9
      have P1 := h6.once V x.c oc.dp (by omega)
      have oc' := oc.next x.c
      go_wp2_with fail
      refine P1.mono ?_
      rintro e w1 ⟨u, rfl, row, h7, bt7⟩
      obtain ⟨pu, cu, rfl⟩ := own_form row
      have pq6 := pq5.but bt7 (fun g => g kp)
      clear P1 r r3 r4 r5 r6 r7 r8 r9 hc h6 pq5 bt7 row
      go_wp2_with fail
      exact ⟨⟨k + 1, m + 3, _, by omega, by omega, by go_num, by omega, oc', h7, pq6⟩, by simp [intOf]; omega⟩
    · by_cases h1 : k < l.length
      · have g1 : decide ((k : Int) < (l.length : Int)) = true := by simp; omega
        have g2 : decide ((k : Int) < 40) = false := by simp; omega
        go_wp2_with fail
        go_meet
        case rel => exact ⟨m, d, by omega, oc, h6, pq5⟩
      · have g1 : decide ((k : Int) < (l.length : Int)) = false := by simp; omega
        go_wp2_with fail
        go_meet
        case rel => exact ⟨m, d, by omega, oc, h6, pq5⟩
end
end Go.Proofs.YthaggkmammfpbaaGreatDoor.Pa

namespace Go.Proofs.YthaggkmammfpbaaGreatDoor.Pa
open Go.ChangeShapes Go.WideShapes Go.ChangeAt Go.RowKit Go.Deep Vs

set_option maxRecDepth 100000 in
theorem open_prefix {H : Type} {enc : TypeId × Value → H} {W : World} {base : Nat} {v : Value} {d : DataW H} {ps : List MemPlace} (hval : Value.okWide Tryz.prog W .any base 31 v) (h : DataW.Trod enc Tryz.prog W 0 (fun _ => true) true 31 v d ps) : ∃ p : Bur.Sp, v = .agg #[.int .i64 p.1, .int .i64 p.2] := by
  obtain ⟨cs, rfl, hsz⟩ := okWide_struct Tryz.underlying31 hval
  rw [pfx_cells] at hsz
  obtain ⟨fuel, hf⟩ := h
  obtain ⟨l⟩ := cs
  match l, hsz with
  | [v0, v1], _ =>
    obtain ⟨a, b, e0, e1, _, _⟩ := open_pfx (by simpa [Value.cells] using hf)
    exact ⟨(a, b), by rw [e0, e1]⟩
end Go.Proofs.YthaggkmammfpbaaGreatDoor.Pa

