/- The contract of the reference's log's Append. -/
import Derived.Test.YtcmmjidheglmdaaDoorLgRefA
import Derived.Test.YtcmmjidheglmdaaDoorCdRefB
import Derived.Deep.RegionLaw
namespace Go.Proofs.YtcmmjidheglmdaaDoor
open Go.RowKit Vs

theorem RL.small {G : Nat → Prop} {w : World} {n0 B : Nat} {g : Lg} (h : RL w n0 G B g) : ∃ p3 c3, w.cell? ⟨B, 3, none⟩ = some (.slice p3 g.by.length c3) ∧ w.cell? ⟨B, 0, none⟩ = some (.int .i64 g.room) ∧ w.cell? ⟨B, 6, none⟩ = some (.bool g.down) ∧ B < w.heap.size := by
  obtain ⟨v1, v2, v3, h⟩ := h
  have d3 := h.c3
  obtain ⟨p3, c3, e3⟩ := own_form h.rr.bys
  rw [e3] at d3
  exact ⟨p3, c3, d3, h.c0, h.c6, h.lt⟩
theorem ofNat_int (n : Nat) : ((UInt8.ofNat n).toNat : Int) = (n : Int) % 256 := by
  rw [UInt8.toNat_ofNat']; simp
theorem two_own (W : World) (n : Nat) {n0 : Nat} (hn : n0 ≤ W.heap.size) : (W.alloc (.cells #[.int .u8 ((n : Int) / 256 % 256), .int .u8 ((n : Int) % 256)] 5)).ownsRow n0 5 1 (.slice (some ⟨W.heap.size, 0, none⟩) 2 2) 2 (byV [UInt8.ofNat (n / 256), UInt8.ofNat (n % 256)]) := by
  have e1 : ((UInt8.ofNat (n / 256)).toNat : Int) = (n : Int) / 256 % 256 := by rw [ofNat_int]; simp
  have e2 : ((UInt8.ofNat (n % 256)).toNat : Int) = (n : Int) % 256 := by rw [ofNat_int]; simp
  refine ⟨rfl, .inr ⟨W.heap.size, 2, _, rfl, hn, heap_alloc_new W _, Nat.le_refl _, by decide, rfl, ?_⟩⟩
  show [Value.int .u8 ((n : Int) / 256 % 256), Value.int .u8 ((n : Int) % 256)] = [Value.int .u8 ((UInt8.ofNat (n / 256)).toNat : Int), Value.int .u8 ((UInt8.ofNat (n % 256)).toNat : Int)]
  rw [e1, e2]
theorem byV_one (l : List UInt8) : ∀ y ∈ byV l, y.oneCell' = true := by
  intro y hy
  simp only [byV, List.mem_map] at hy
  obtain ⟨x, _, rfl⟩ := hy
  rfl
theorem fr_by (l : List Chg) : byV [UInt8.ofNat ((encL l).length / 256), UInt8.ofNat ((encL l).length % 256)] ++ byV (encL l) = byV (fr l) := rfl
theorem turned_val {V w' : World} {row : Option Nat} (hg : V.grownBy w' row) : But (fun j => row = some j) V w' := ⟨hg.os, hg.tape, hg.output, hg.size, fun k hk hF => hg.block k hk (fun e => hF e.symm)⟩
theorem cell_new2 (W : World) (v : Value) (t : Nat) (N : Nat) (hN : N = W.heap.size) : ∀ (j : Nat) (u : Value), ([v] : List Value)[j]? = some u → (W.alloc (.cells #[v] t)).cell? ⟨N, j, none⟩ = some u := by
  subst hN
  intro j u hj
  match j, hj with
  | 0, hj => simp at hj; subst hj; simp
theorem slice_one {q : Option Addr} {n c : Nat} : ∀ u ∈ ([.slice q n c] : List Value), u.oneCell' = true := by
  intro u hu
  rw [List.mem_singleton.1 hu]; rfl
theorem RX.grow1 {G : Nat → Prop} {w w5 : World} {n0 B : Nat} {room safe left : Int} {down : Bool} {v1 v2 v3 u : Value} {ls : List (List Chg)} {es : List Int} {bs : List UInt8} {l : List Chg} {q : Value} {vs : List Value} (x : RX w n0 G B room safe left down v1 v2 v3 ls es bs) (r1 : w.ownsRow n0 35 1 v1 ls.length vs) (r2 : ∀ (i : Nat) (l : List Chg), ls[i]? = some l → ∃ u, vs[i]? = some u ∧ LsE w (fun j => j < n0) u l) (hq : LsE w (fun j => j < n0) q l) (own : w5.ownsRow n0 35 1 u (ls.length + 1) (vs ++ [q])) (hg : w.grownBy w5 v1.ownBlock) (hat : u.ownBlock = v1.ownBlock ∨ u.ownBlock = some w.heap.size) :
    w5.cell? ⟨B, 1, none⟩ = some v1 ∧ w5.frozen? ⟨B, 1, none⟩ = false ∧ (∀ i, i < 7 → w5.cell? ⟨B, i, none⟩ = w.cell? ⟨B, i, none⟩ ∧ w5.frozen? ⟨B, i, none⟩ = false) ∧ RX (w5.setCell ⟨B, 1, none⟩ u) n0 (Nw G w w5) B room safe left down u v2 v3 (ls ++ [l]) es bs := by
  have b5 := turned_val hg
  have hB : ¬ v1.ownBlock = some B := fun e => (x.rr.sep.s1 B e).2.1 rfl
  have own' : OwnL n0 w5 u (ls ++ [l]) := OwnL.more (v := v1) r2 (by have := r1.1; omega) hq own b5 (fun j hj => (row_lt r1 hj).1)
  exact ⟨(b5.cell (p := ⟨B, 1, none⟩) x.lt hB).trans x.c1, (b5.frozen (p := ⟨B, 1, none⟩) x.lt hB).trans (x.fz 1 (by decide)), fun i hi => ⟨b5.cell (p := ⟨B, i, none⟩) x.lt hB, (b5.frozen (p := ⟨B, i, none⟩) x.lt hB).trans (x.fz i hi)⟩, x.put1 b5 own' hat⟩
theorem RX.grow2 {G : Nat → Prop} {w w5 : World} {n0 B : Nat} {room safe left : Int} {down : Bool} {v1 v2 v3 u : Value} {ls : List (List Chg)} {es : List Int} {bs : List UInt8} {z : Int} (x : RX w n0 G B room safe left down v1 v2 v3 ls es bs) (own : w5.ownsRow n0 3 1 u (es.length + 1) (inV es ++ [.int .i64 z])) (hg : w.grownBy w5 v2.ownBlock) (hat : u.ownBlock = v2.ownBlock ∨ u.ownBlock = some w.heap.size) :
    w5.cell? ⟨B, 2, none⟩ = some v2 ∧ w5.frozen? ⟨B, 2, none⟩ = false ∧ (∀ i, i < 7 → w5.cell? ⟨B, i, none⟩ = w.cell? ⟨B, i, none⟩ ∧ w5.frozen? ⟨B, i, none⟩ = false) ∧ RX (w5.setCell ⟨B, 2, none⟩ u) n0 (Nw G w w5) B room safe left down v1 u v3 ls (es ++ [z]) bs := by
  have b5 := turned_val hg
  have hB : ¬ v2.ownBlock = some B := fun e => (x.rr.sep.s2 B e).2.1 rfl
  have own' : w5.ownsRow n0 3 1 u (es ++ [z]).length (inV (es ++ [z])) := by rw [inV_app, List.length_append]; exact own
  exact ⟨(b5.cell (p := ⟨B, 2, none⟩) x.lt hB).trans x.c2, (b5.frozen (p := ⟨B, 2, none⟩) x.lt hB).trans (x.fz 2 (by decide)), fun i hi => ⟨b5.cell (p := ⟨B, i, none⟩) x.lt hB, (b5.frozen (p := ⟨B, i, none⟩) x.lt hB).trans (x.fz i hi)⟩, x.put2 b5 own' hat⟩
theorem RX.grow3 {G : Nat → Prop} {w w5 : World} {n0 B : Nat} {room safe left : Int} {down : Bool} {v1 v2 v3 u : Value} {ls : List (List Chg)} {es : List Int} {bs : List UInt8} {m : Nat} {zs : List UInt8} (x : RX w n0 G B room safe left down v1 v2 v3 ls es bs) (hm : m = zs.length) (own : w5.ownsRow n0 5 1 u (bs.length + m) (byV bs ++ byV zs)) (hg : w.grownBy w5 v3.ownBlock) (hat : u.ownBlock = v3.ownBlock ∨ u.ownBlock = some w.heap.size) :
    w5.cell? ⟨B, 3, none⟩ = some v3 ∧ w5.frozen? ⟨B, 3, none⟩ = false ∧ (∀ i, i < 7 → w5.cell? ⟨B, i, none⟩ = w.cell? ⟨B, i, none⟩ ∧ w5.frozen? ⟨B, i, none⟩ = false) ∧ RX (w5.setCell ⟨B, 3, none⟩ u) n0 (Nw G w w5) B room safe left down v1 v2 u ls es (bs ++ zs) := by
  have b5 := turned_val hg
  have hB : ¬ v3.ownBlock = some B := fun e => (x.rr.sep.s3 B e).2.1 rfl
  have own' : w5.ownsRow n0 5 1 u (bs ++ zs).length (byV (bs ++ zs)) := by rw [byV_app, List.length_append, ← hm]; exact own
  exact ⟨(b5.cell (p := ⟨B, 3, none⟩) x.lt hB).trans x.c3, (b5.frozen (p := ⟨B, 3, none⟩) x.lt hB).trans (x.fz 3 (by decide)), fun i hi => ⟨b5.cell (p := ⟨B, i, none⟩) x.lt hB, (b5.frozen (p := ⟨B, i, none⟩) x.lt hB).trans (x.fz i hi)⟩, x.put3 b5 own' hat⟩
/-- An append whose run is known, in a region that draws its order. -/
theorem step_append_run {w w' : World} {ops : Array Oper} {o : Oper} {a : Act} {K : Act → World → Prop} {Q : Exit → Act → World → Prop} {E : Prop} {v u v' : Value} (hgd : o.guard = none) (s x : Operand) (t : TypeId)
    (ho : o.op = .call { callee := .builtin .append, args := #[s, x], argTypes := #[t, t] }) (hs : a.eval s = v) (hx : a.eval x = u) (hr : (Builtin.append_ #[t, t] o.type #[v, u]).run Tryd.prog w = .ok v' w') (hK : K (a.put o.dst v') w') :
    if Region.wanted o (yielded ops a.tmps) = true then Oper.wp Tryd.prog o a w K Q else E := by
  have hw : Region.wanted o (yielded ops a.tmps) = true := by simp [Region.wanted, hgd]
  rw [if_pos hw]
  unfold Oper.wp execOp
  simp only [ho, resolve, invoke, builtin, Sem.run_bind, Sem.run_pure, Result.andThen_ok, List.map_toArray, List.map_cons, List.map_nil, hs, hx, hr]
  exact hK
theorem own_block7 {w : World} {B e n : Nat} {v : Value} {xs : List Value} (h : w.ownsRow B e 1 v (2 + n) xs) : ∃ g c, v = .slice (some ⟨g, 0, none⟩) (2 + n) c := by
  rcases h.2 with ⟨_, h0⟩ | ⟨g, cap, cur, h0, _⟩
  · omega
  · exact ⟨g, cap, h0⟩
theorem encL_small {l : List Chg} (h : chF l = 0) : (encL l).length ≤ 1000 := by
  obtain ⟨h1, h2⟩ := chF_ok h
  have key : ∀ {m : List Chg}, (∀ c ∈ m, chW c = false) → (m.flatMap encC).length ≤ m.length * 40 := by
    intro m
    induction m with
    | nil => intro _; simp
    | cons x r ih =>
      intro hm
      have h3 := ih (fun c hc => hm c (by simp [hc]))
      have h4 : (encC x).length ≤ 40 := by
        obtain ⟨a1, a2, a3, _⟩ := chW_ok (hm x (by simp))
        have e1 : x.k.data.toList.length = x.k.size := rfl
        have e2 : x.v.data.toList.length = x.v.size := rfl
        unfold encC
        by_cases g : x.g = true
        · simp [g]; omega
        · simp [g]; omega
      rw [List.flatMap_cons, List.length_append, List.length_cons]; omega
  have := key h2
  rw [encL, List.length_cons]; omega
theorem own_capB {w : World} {B e g n c : Nat} {xs : List Value} (h : w.ownsRow B e 1 (.slice (some ⟨g, 0, none⟩) n c) n xs) : n ≤ c := by
  rcases h.2 with ⟨h0, _⟩ | ⟨g', cap', cur, h0, _, hg, h1, h2, _⟩
  · cases h0
  · cases h0; exact h1
theorem infoInt : (Tryd.prog.info? 3).map (fun i => (i.zero, i.size, i.bytes)) = some (some (.int .i64 0), 1, 8) := by kernel_rfl
set_option maxRecDepth 100000 in
set_option maxHeartbeats 4000000 in
theorem refAppend {G : Nat → Prop} {n0 B : Nat} {g : Lg} (l : List Chg) (p : Option Addr) (c : Nat) (w : World) (h : RL w n0 G B g) (ok : OkL g) (hn0 : n0 ≤ w.heap.size) (hG : ∀ j, G j → j < w.heap.size) (hl : l.length ≤ c) (hc : c ≤ 9223372036854775807) (hp : ChIn w (fun j => j < n0) p l) :
    Calls Tryd.prog 8 #[.pointer (some ⟨B, 0, none⟩), .slice p l.length c] w fun e w' => e = .returned (.int .i64 (apF g l)) ∧ RL w' n0 (Nw G w w') B (apG g l) ∧ But G w w' := by
  have hC := changesFault l p c w (by omega) hp.at
  have hinl : ∀ w', G B → Nw G w w' B := fun w' hB => .inl hB
  by_cases h1 : chF l = 0
  · rw [h1] at hC
    have hfw := ok.few
    by_cases h2 : g.room < g.by.length + 2 + (encL l).length
    · rw [show apF g l = 3 from by rw [apF, if_pos h1, if_pos h2], show apG g l = g from by rw [apG, if_pos h1, if_pos h2]]
      have hlen : (encL l).length ≤ 100000 := by have := encL_small h1; omega
      go_enter Tryd.func8, Tryd.ntmps8
      go_wp2_with (first
        | (go_at_call 21; refine hC.mono ?_; rintro e w1 ⟨rfl, hb1⟩)
        | (go_at_call 22; refine (bytesOf l p c w1 h1 (hp.step hb1).at).mono ?_; rintro e w2 ⟨v6, rfl, own6, hb2⟩; obtain ⟨p6, c6, rfl⟩ := own_form own6; have hb12 := below_via hb1 hb2; obtain ⟨p3, c3, d3, d0, d6, hBlt⟩ := (h.step hb12).small))
      go_quiet (fail)
      go_wp2
      go_ret
      have hbq := below_drewN hb12 nq
      exact ⟨rfl, (h.step hbq).mono (fun j hj => .inl hj), .below hbq⟩
    · by_cases h3 : g.down = true
      · rw [show apF g l = 8 from by rw [apF, if_pos h1, if_neg h2, if_pos h3], show apG g l = g from by rw [apG, if_pos h1, if_neg h2, if_pos h3]]
        have hlen : (encL l).length ≤ 100000 := by have := ok.r1; omega
        go_enter Tryd.func8, Tryd.ntmps8
        go_wp2_with (first
          | (go_at_call 21; refine hC.mono ?_; rintro e w1 ⟨rfl, hb1⟩)
          | (go_at_call 22; refine (bytesOf l p c w1 h1 (hp.step hb1).at).mono ?_; rintro e w2 ⟨v6, rfl, own6, hb2⟩; obtain ⟨p6, c6, rfl⟩ := own_form own6; have hb12 := below_via hb1 hb2; obtain ⟨p3, c3, d3, d0, d6, hBlt⟩ := (h.step hb12).small; rw [h3] at d6))
        go_quiet (fail)
        clear h3
        go_wp2
        go_ret
        have hbq := below_drewN hb12 nq
        exact ⟨rfl, (h.step hbq).mono (fun j hj => .inl hj), .below hbq⟩
      · have h3' : g.down = false := by simpa using h3
        by_cases h4 : g.left = 0
        · rw [show apF g l = 8 from by rw [apF, if_pos h1, if_neg h2, if_neg h3, if_pos h4], show apG g l = { g with tl := (fr l).take ((fr l).length / 2), down := true } from by rw [apG, if_pos h1, if_neg h2, if_neg h3, if_pos h4]]
          have hlen : (encL l).length ≤ 100000 := by have := ok.r1; omega
          go_enter Tryd.func8, Tryd.ntmps8
          go_wp2_with (first
            | (go_at_call 21; refine hC.mono ?_; rintro e w1 ⟨rfl, hb1⟩)
            | (go_at_call 22; refine (bytesOf l p c w1 h1 (hp.step hb1).at).mono ?_; rintro e w2 ⟨v6, rfl, own6, hb2⟩; obtain ⟨p6, c6, rfl⟩ := own_form own6; have hb12 := below_via hb1 hb2; obtain ⟨p3, c3, d3, d0, d6, hBlt⟩ := (h.step hb12).small; rw [h3'] at d6))
          go_quiet (fail)
          have hBn : B < w.heap.size := hG B h.gB
          have hs12 := hb12.size
          have hs2 := hb2.size
          have hstG : stG g = { g with down := true } := by rw [stG, if_pos h4]
          have own6a := fun n o => own_below own6 (below_al (below_drewN (below_self w2) n) o)
          have h4d : (!decide (g.left = 0)) = false := by simp [h4]
          have h4h : Hid _ := h4
          clear h4
          go_wp2_with (first
            | (at_builtin; refine wpList_append_row 42 5 1 1 _ Tryd.underlying42 infoByte rfl (by decide) (by decide) rfl _ _ rfl w2.heap.size _ 2 _ rfl (two_own _ _ (Nat.le_refl _)) (by simp) w1.heap.size _ (encL l).length (byV (encL l)) rfl (own6a _ _) (byV_one _) (by omega) ?_; intro v7 w3 own7 hg7 hat7; rw [fr_by] at own7; have hb3 : Below w2.heap.size w2 w3 := ((below_drewN (below_self w2) _).alloc (Nat.le_refl _) _).grown hg7 (by simp) (fun j hj => by have hj : some w2.heap.size = some j := hj; cases hj; exact Nat.le_refl _); have hb3w := below_via hb12 hb3; have h3R := h.step hb3w; have hst := refStep w3 h3R ok.lmax; rw [hstG, h4d] at hst; obtain ⟨g7, c7, rfl⟩ := own_block7 own7)
            | (go_at_call 23; refine hst.mono ?_; rintro e w4 ⟨rfl, ⟨v1, v2, v3, x4⟩, hb4⟩; have m3 := x4.c3; have fm3 := x4.fz 3 (by decide); have own7a : w4.ownsRow w2.heap.size 5 1 (.slice (some ⟨g7, 0, none⟩) (2 + (encL l).length) c7) (2 + (encL l).length) (byV (fr l)) := row_but own7 hb4 (fun j hj e => by have := (row_lt own7 hj).1; omega)))
          obtain ⟨M, hM⟩ : ∃ M, M = 2 + (encL l).length := ⟨_, rfl⟩
          obtain ⟨Hf, hHf⟩ : ∃ Hf, Hf = M / 2 := ⟨_, rfl⟩
          have hfl : (fr l).length = M := by rw [fr_len, hM]; omega
          rw [← hM] at own7a
          rw [← hM]
          have hM1 : M ≤ 100002 := by omega
          have hcp := (own_capB own7a)
          have hH : (M : Int) / 2 = (Hf : Int) := by omega
          have hHc : (Hf : Int) ≤ (c7 : Int) := by omega
          have hHn : Hf ≤ c7 := by omega
          have hwr : IntKind.i64.wrap (Hf : Int) = (Hf : Int) := by rw [IntKind.wrap_i64]; omega
          have x4d := x4.step (below_self w4).drew
          obtain ⟨i0, hin, hz0, hz1, hz2⟩ := info_parts infoByte
          have htl : ((fr l).take Hf).length = Hf := by rw [List.length_take, hfl]; omega
          have hby1 := hfw.2.1
          obtain ⟨u3, w5, hr, own5, hg5, _, hat5⟩ := run_append_own_at (P := Tryd.prog) w4.drew n0 42 42 5 i0 (.int .u8 0) 1 1 Tryd.underlying42 hin hz0 hz1 hz2 rfl (by decide) v3 g.by.length (byV g.by) x4d.rr.bys ⟨g7, 0, none⟩ Hf c7 (byV ((fr l).take Hf)) (by rw [byV_len, htl]; omega) (fun j u hj => by
            have hjl : j < Hf := by have := (List.getElem?_eq_some_iff.1 hj).1; rw [byV_len, htl] at this; exact this
            rw [show (⟨g7, 0, none⟩ : Addr).add j = ⟨g7, j, none⟩ from by unfold Addr.add; split <;> simp_all]
            have e1 := own7a.cellAt j (by omega)
            have e2 : (byV (fr l))[j]? = some u := by
              rw [byV, List.getElem?_map] at hj ⊢
              rw [List.getElem?_take, if_pos hjl] at hj
              exact hj
            exact e1.trans e2) (byV_one _) (by unfold maxLen; omega) (by omega) (by have := hb4.size; have := hb3w.size; show n0 ≤ w4.heap.size; omega)
          obtain ⟨pu, cu, rfl⟩ := own_form own5
          obtain ⟨n3, fn3, gc5, x5⟩ := x4d.grow3 htl.symm own5 hg5 hat5
          have gB := h.gB
          have bt4 : But G w w4 := (But.below hb3w).then hb4 (fun i _ e => by rw [e]; exact gB)
          have bz4 := bt4.size
          have bt5 : But G w w5 := bt4.drew.then (turned_val hg5) (fun i _ e => (x4d.rr.sep.s3 i e).1)
          have bz5 : w4.heap.size ≤ w5.heap.size := hg5.size
          have bt6 : But G w (w5.setCell ⟨B, 3, none⟩ (.slice pu (g.by.length + Hf) cu)) := bt5.setCell (p := ⟨B, 3, none⟩) (.inl gB) _
          obtain ⟨t0, tb⟩ := ok.up h3'
          have x10 : RL (w5.setCell ⟨B, 3, none⟩ (.slice pu (g.by.length + Hf) cu)) n0 (Nw G w (w5.setCell ⟨B, 3, none⟩ (.slice pu (g.by.length + Hf) cu))) B ⟨g.room, g.ls, (fr l).take ((fr l).length / 2), g.safe, g.left, true⟩ := by
            refine ⟨v1, v2, .slice pu (g.by.length + Hf) cu, ?_⟩
            show RX _ _ _ _ g.room g.safe g.left true _ _ _ g.ls (ends 0 g.ls) (frs g.ls ++ (fr l).take ((fr l).length / 2))
            have x5' : RX (w5.setCell ⟨B, 3, none⟩ (.slice pu (g.by.length + Hf) cu)) n0 (Nw G w4.drew w5) B g.room g.safe g.left true v1 v2 (.slice pu (g.by.length + Hf) cu) g.ls (ends 0 g.ls) (g.by ++ (fr l).take Hf) := x5
            rw [hfl, ← hHf, ← tb]
            refine RX.mono x5' (fun j hj => ?_)
            rcases hj with hj | hj
            · exact .inl hj
            · have hj : w4.heap.size ≤ j ∧ j < w5.heap.size := hj
              exact .inr ⟨by omega, by simp [World.setCell]; omega⟩
          have X10 : Hid _ := x10
          have BT : Hid _ := bt6
          clear x10 bt6 bt5 bt4 bz4 bz5 t0 tb gc5 hfl hHf hM htl
          clear hp hC hinl hfw hl own6a own6 hb12 hb1 hb2 hb3w h3R hb3 hg7 hat7 hst own7 own7a own5 hat5 x5 x4d
          have m3d : w4.drew.cell? ⟨B, 3, none⟩ = some v3 := m3
          go_region_law (refine step_append_run rfl _ _ 42 rfl rfl rfl hr ?_)
          all_goals go_wp2_with fail
          all_goals go_ret
          all_goals exact ⟨rfl, X10.out, BT.out⟩
        · rw [show apF g l = 0 from by rw [apF, if_pos h1, if_neg h2, if_neg h3, if_neg h4], show apG g l = { g with ls := g.ls ++ [l], left := less g.left } from by rw [apG, if_pos h1, if_neg h2, if_neg h3, if_neg h4]]
          have hlen : (encL l).length ≤ 100000 := by have := ok.r1; omega
          go_enter Tryd.func8, Tryd.ntmps8
          go_wp2_with (first
            | (go_at_call 21; refine hC.mono ?_; rintro e w1 ⟨rfl, hb1⟩)
            | (go_at_call 22; refine (bytesOf l p c w1 h1 (hp.step hb1).at).mono ?_; rintro e w2 ⟨v6, rfl, own6, hb2⟩; obtain ⟨p6, c6, rfl⟩ := own_form own6; have hb12 := below_via hb1 hb2; obtain ⟨p3, c3, d3, d0, d6, hBlt⟩ := (h.step hb12).small; rw [h3'] at d6))
          go_quiet (fail)
          have hBn : B < w.heap.size := by
            have := hG B h.gB; exact this
          have hs12 := hb12.size
          have hs2 := hb2.size
          have hstG : stG g = { g with left := less g.left } := by rw [stG, if_neg h4]
          have own6a := fun n o => own_below own6 (below_al (below_drewN (below_self w2) n) o)
          have hqAll : ∀ (w4 w5 : World) (u : Value) (w3 : World) (v3 : Value), n0 ≤ B → Below w.heap.size w w3 → But (fun j => j = B) w3 w4 → (∀ j, v3.ownBlock = some j → n0 ≤ j) → w4.grownBy w5 v3.ownBlock → LsE (w5.setCell ⟨B, 3, none⟩ u) (fun j => j < n0) (.slice p l.length c) l := fun w4 w5 u w3 v3 nB b3 b4 hv hg => ⟨p, c, rfl, hl, hc, (((hp.step b3).but b4 (fun j _ hj e => by have hj : j < n0 := hj; omega)).but (turned_val hg) (fun j _ hj e => by have hj : j < n0 := hj; have := hv j e; omega)).but (setB (i := 3) (v := u)) (fun j _ hj e => by have hj : j < n0 := hj; omega)⟩
          have h63 : g.by.length + (2 + (encL l).length) ≤ 1000000 := by have := hfw.2.1; omega
          have hm3 : Hid (2 + (encL l).length = (fr l).length) := by show _ = _; rw [fr_len]; omega
          have h4d : (!decide (g.left = 0)) = true := by simp [h4]
          go_wp2_with (first
            | (at_builtin; refine wpList_append_row 42 5 1 1 _ Tryd.underlying42 infoByte rfl (by decide) (by decide) rfl _ _ rfl w2.heap.size _ 2 _ rfl (two_own _ _ (Nat.le_refl _)) (by simp) w1.heap.size _ (encL l).length (byV (encL l)) rfl (own6a _ _) (byV_one _) (by omega) ?_; intro v7 w3 own7 hg7 hat7; rw [fr_by] at own7; have hb3 : Below w2.heap.size w2 w3 := ((below_drewN (below_self w2) _).alloc (Nat.le_refl _) _).grown hg7 (by simp) (fun j hj => by have hj : some w2.heap.size = some j := hj; cases hj; exact Nat.le_refl _); have hb3w := below_via hb12 hb3; have h3R := h.step hb3w; have hst := refStep w3 h3R ok.lmax; rw [hstG, h4d] at hst)
            | (go_at_call 23; refine hst.mono ?_; rintro e w4 ⟨rfl, ⟨v1, v2, v3, x4⟩, hb4⟩; have m3 := x4.c3; have fm3 := x4.fz 3 (by decide); have own7a : w4.ownsRow w2.heap.size 5 1 v7 (2 + (encL l).length) (byV (fr l)) := row_but own7 hb4 (fun j hj e => by have := (row_lt own7 hj).1; omega); have own3a : w4.ownsRow n0 5 1 v3 g.by.length (byV g.by) := x4.rr.bys; have hn4 : n0 ≤ w4.heap.size := Nat.le_trans hn0 (Nat.le_trans hb3w.size hb4.size))
            | (at_builtin; refine wpList_append_row 42 5 1 1 _ Tryd.underlying42 infoByte rfl (by decide) (by decide) rfl _ _ rfl n0 _ g.by.length (byV g.by) rfl own3a hn4 w2.heap.size _ (2 + (encL l).length) (byV (fr l)) rfl own7a (byV_one _) h63 ?_; intro u3 w5 own5 hg5 hat5; obtain ⟨pu, cu, rfl⟩ := own_form own5; obtain ⟨n3, fn3, gc5, x5⟩ := x4.grow3 hm3.out own5 hg5 hat5; have hq6 : LsE (w5.setCell ⟨B, 3, none⟩ (.slice pu (g.by.length + (2 + (encL l).length)) cu)) (fun j => j < n0) (.slice p l.length c) l := hqAll w4 w5 _ _ v3 x4.nB hb3w hb4 (fun j hj => (row_lt own3a hj).1) hg5; have m1 := (gc5 1 (by decide)).1.trans x4.c1; have fm1 := (gc5 1 (by decide)).2; clear gc5; obtain ⟨vs, r1, r2⟩ := x5.rr.li)
            | (at_builtin; refine wpList_append_oneAt 22 35 1 24 _ Tryd.underlying22 infoLs rfl (by decide) (by decide) rfl _ _ rfl n0 _ g.ls.length vs rfl (r1.alloc _) (by simp; have := hg5.size; omega) w5.heap.size [.slice p l.length c] rfl rfl (cell_new2 _ _ _ _ (by simp [World.setCell])) slice_one (by have := hfw.1; omega) ?_; intro u1 w7 own8 hg8 hat8; obtain ⟨pl, cl, rfl⟩ := own_form own8; have x6 := x5.step (below_al (below_self _) (.cells #[.slice p l.length c] 35)); have q6 := LsE.but (E := fun _ => False) hq6 (.below (below_al (below_self _) (.cells #[.slice p l.length c] 35))) (fun _ _ _ => id); obtain ⟨n1, fn1, gc7, x7⟩ := x6.grow1 (r1.alloc _) (fun i l' hl' => by (obtain ⟨y, y1, y2⟩ := r2 i l' hl'; exact ⟨y, y1, y2.but (E := fun _ => False) (.below (below_al (below_self _) _)) (fun _ _ _ => id)⟩)) q6 own8 hg8 hat8; replace gc7 : Hid _ := gc7))
          obtain ⟨W8, hW8⟩ : ∃ W8, W8 = w7.setCell ⟨B, 1, none⟩ (.slice pl (g.ls.length + 1) cl) := ⟨_, rfl⟩
          obtain ⟨M, hM⟩ : ∃ M, M = g.by.length + (2 + (encL l).length) := ⟨_, rfl⟩
          rw [← hW8, ← hM] at x7
          rw [← hW8, ← hM]
          have y2 := x7.c2
          have y3 := x7.c3
          have fy2 := x7.fz 2 (by decide)
          have x8 := x7.step (below_al (below_self W8).drew (.cells #[.int .i64 (M : Int)] 3))
          obtain ⟨i0, hin, hz0, hz1, hz2⟩ := info_parts infoInt
          have hle : (ends 0 g.ls).length + 1 ≤ 33335 := by rw [ends_len]; have := hfw.1; omega
          obtain ⟨u2, w9, hr, own9, hg9, _, hat9⟩ := run_append_own_at (P := Tryd.prog) (W8.drew.alloc (.cells #[.int .i64 (M : Int)] 3)) n0 41 41 3 i0 (.int .i64 0) 1 8 Tryd.underlying41 hin hz0 hz1 hz2 rfl (by decide) v2 (ends 0 g.ls).length (inV (ends 0 g.ls)) x8.rr.en ⟨W8.heap.size, 0, none⟩ 1 1 [.int .i64 (M : Int)] rfl (fun j u hj => by
            rw [show (⟨W8.heap.size, 0, none⟩ : Addr).add j = ⟨W8.heap.size, j, none⟩ from by unfold Addr.add; split <;> simp_all]
            exact cell_new2 W8.drew _ _ _ rfl j u hj) (fun u hu => by rw [List.mem_singleton.1 hu]; rfl) (by unfold maxLen; omega) (by omega) (by have := x8.nB; have := x8.lt; omega)
          obtain ⟨pe, ce, rfl⟩ := own_form own9
          obtain ⟨k2, fk2, k29, x9⟩ := x8.grow2 own9 hg9 hat9
          have gB := h.gB
          have bt4 : But G w w4 := (But.below hb3w).then hb4 (fun i _ e => by rw [e]; exact gB)
          have bt5 : But G w w5 := bt4.then (turned_val hg5) (fun i _ e => (x4.rr.sep.s3 i e).1)
          have bt6 : But G w (w5.setCell ⟨B, 3, none⟩ (.slice pu (g.by.length + (2 + (encL l).length)) cu)) := bt5.setCell (p := ⟨B, 3, none⟩) (.inl gB) _
          have bz4 := bt4.size
          have bt7 : But G w w7 := (bt6.alloc _).then (turned_val hg8) (fun i hi e => (x6.rr.sep.s1 i e).1.elim id (fun q => absurd q.1 (by omega)))
          have bz5 := hg5.size
          have bz7 := hg8.size
          simp [World.setCell] at bz7
          have bt8 : But G w W8 := by rw [hW8]; exact bt7.setCell (p := ⟨B, 1, none⟩) (.inl gB) _
          have bt9 : But G w w9 := (bt8.drew.alloc _).then (turned_val hg9) (fun i hi e => (x8.rr.sep.s2 i e).1.elim (fun q => q.elim id (fun q => absurd q.1 (by omega))) (fun q => absurd q.1 (by simp [World.setCell]; omega)))
          have bz8 : W8.heap.size = w7.heap.size := by rw [hW8]; simp [World.setCell]
          have bz9 := hg9.size
          simp at bz9
          have bt10 : But G w (w9.setCell ⟨B, 2, none⟩ (.slice pe ((ends 0 g.ls).length + 1) ce)) := bt9.setCell (p := ⟨B, 2, none⟩) (.inl gB) _
          obtain ⟨t0, tb⟩ := ok.up h3'
          have eM : Hid ((M : Int) = ((0 + (frs (g.ls ++ [l])).length : Nat) : Int)) := by
            show _ = _
            rw [hM, tb, frs_app, frs_one, List.length_append, fr_len]; omega
          have x10 : RL (w9.setCell ⟨B, 2, none⟩ (.slice pe ((ends 0 g.ls).length + 1) ce)) n0 (Nw G w (w9.setCell ⟨B, 2, none⟩ (.slice pe ((ends 0 g.ls).length + 1) ce))) B ⟨g.room, g.ls ++ [l], g.tl, g.safe, less g.left, false⟩ := by
            have x9' : RX (w9.setCell ⟨B, 2, none⟩ (.slice pe ((ends 0 g.ls).length + 1) ce)) n0 _ B g.room g.safe (less g.left) g.down (.slice pl (g.ls.length + 1) cl) (.slice pe ((ends 0 g.ls).length + 1) ce) (.slice pu M cu) (g.ls ++ [l]) (ends 0 g.ls ++ [(M : Int)]) (g.by ++ fr l) := x9
            rw [h3'] at x9'
            refine ⟨.slice pl (g.ls.length + 1) cl, .slice pe ((ends 0 g.ls).length + 1) ce, .slice pu M cu, ?_⟩
            show RX _ _ _ _ g.room g.safe (less g.left) false _ _ _ (g.ls ++ [l]) (ends 0 (g.ls ++ [l])) (frs (g.ls ++ [l]) ++ g.tl)
            rw [ends_app, ← eM.out, t0, List.append_nil, frs_app, frs_one, ← tb]
            refine RX.mono x9' (fun j hj => ?_)
            rcases hj with ((hj | hj) | hj) | hj
            · exact .inl hj
            · exact .inr ⟨by omega, by simp [World.setCell]; omega⟩
            · simp [World.setCell] at hj
              exact .inr ⟨by omega, by simp [World.setCell]; omega⟩
            · simp at hj
              exact .inr ⟨by omega, by simp [World.setCell]; omega⟩
          have X10 : Hid _ := x10
          have BT : Hid _ := bt10
          clear x10 bt10 bt9 bt8 bt7 bt6 bt5 bt4 bz4 bz5 bz7 bz8 bz9 t0 tb eM
          clear hW8 hM
          clear hqAll h63 hm3 hstG h4d hp hC hinl hfw hl own6a own6 hb12 hb1 hb2 hb3w h3R hb4 hb3 hg7 hat7 m3 fm3
          clear hst own7 own7a own3a own5 hg5 hat5 n3 fn3 hq6 m1 fm1 r1 r2 own8 hg8 hat8 x6 q6 n1 fn1 gc7 x5 own9 hat9 x8
          have y2A : (W8.drew.alloc (.cells #[.int .i64 (M : Int)] 3)).cell? ⟨B, 2, none⟩ = some v2 := (World.cell?_alloc_lt W8.drew _ ⟨B, 2, none⟩ x7.lt).trans y2
          have y3A : (W8.drew.alloc (.cells #[.int .i64 (M : Int)] 3)).cell? ⟨B, 3, none⟩ = some (.slice pu M cu) := (World.cell?_alloc_lt W8.drew _ ⟨B, 3, none⟩ x7.lt).trans y3
          have y39 : w9.cell? ⟨B, 3, none⟩ = some (.slice pu M cu) := ((k29 3 (by decide)).1).trans y3A
          have y3z := x9.c3
          have hBl8 : B < W8.heap.size := x7.lt
          have hBn8 : ¬ B = W8.heap.size := by omega
          clear k29
          go_region_law (refine step_append_run rfl _ _ 41 rfl rfl rfl hr ?_)
          all_goals go_wp2_with fail
          all_goals go_ret
          all_goals exact ⟨rfl, X10.out, BT.out⟩
  · rw [show apF g l = chF l from if_neg h1, show apG g l = g from if_neg h1]
    have e1 : (chF l != 0) = true := by simpa using h1
    clear h1
    go_enter Tryd.func8, Tryd.ntmps8
    go_wp2_with (go_at_call 21; refine hC.mono ?_; rintro e w1 ⟨rfl, hb1⟩)
    go_ret
    exact ⟨rfl, (h.step hb1).mono (fun j hj => .inl hj), .below hb1⟩
end Go.Proofs.YtcmmjidheglmdaaDoor
