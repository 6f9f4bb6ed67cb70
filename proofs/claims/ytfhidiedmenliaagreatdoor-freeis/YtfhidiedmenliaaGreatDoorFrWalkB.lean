/- The contracts of free's First, Many and Best, each in one form for whatever it is given. -/
import Derived.Test.YtfhidiedmenliaaGreatDoorFrWalkA
import Derived.Test.YtfhidiedmenliaaGreatDoorFrFit
namespace Go.Proofs.YtfhidiedmenliaaGreatDoor
open Go.RowKit

/-- A box of two numbers that may be written. -/
structure Bx (w : World) (B : Nat) (u v : Int) : Prop where
  c0 : w.cell? ⟨B, 0, none⟩ = some (.int .i64 u)
  c1 : w.cell? ⟨B, 1, none⟩ = some (.int .i64 v)
  f0 : w.frozen? ⟨B, 0, none⟩ = false
  f1 : w.frozen? ⟨B, 1, none⟩ = false
theorem Bx.lt {w : World} {B : Nat} {u v : Int} (h : Bx w B u v) : B < w.heap.size := World.block_lt_of_cell? _ _ h.c0
theorem Bx.step {w w' : World} {B : Nat} {u v : Int} (h : Bx w B u v) (hb : Below w.heap.size w w') : Bx w' B u v :=
  ⟨(hb.cell (p := ⟨B, 0, none⟩) h.lt).trans h.c0, (hb.cell (p := ⟨B, 1, none⟩) h.lt).trans h.c1, (hb.frozen (p := ⟨B, 0, none⟩) h.lt).trans h.f0, (hb.frozen (p := ⟨B, 1, none⟩) h.lt).trans h.f1⟩
theorem Bx.new (w : World) (t : Nat) (u v : Int) : Bx (w.alloc (.cells #[.int .i64 u, .int .i64 v] t)) w.heap.size u v := ⟨by simp, by simp, by simp, by simp⟩
theorem Bx.put {w : World} {B : Nat} {u v : Int} (h : Bx w B u v) (x y : Int) : (w.setCell ⟨B, 0, none⟩ (.int .i64 x)).cell? ⟨B, 0, none⟩ = some (.int .i64 x) ∧ ((w.setCell ⟨B, 0, none⟩ (.int .i64 x)).setCell ⟨B, 1, none⟩ (.int .i64 y)).cell? ⟨B, 1, none⟩ = some (.int .i64 y) := by
  obtain ⟨c0, c1, f0, f1⟩ := h
  exact ⟨by go_simp, by go_simp⟩

set_option maxRecDepth 100000 in
set_option maxHeartbeats 8000000 in
theorem gapsFor (a z n : Int) (p : Option Addr) (cap : Nat) (l : List Bur.Sp) (w : World) (hl : l.length ≤ 9223372036854775807) (hs : SpAt w p l) :
    Calls Tryz.prog 30 #[pfx a z, .slice p l.length cap, .int .i64 n] w fun e w' => ∃ (q : Option Addr) (cq : Nat), e = .returned (.tuple #[.slice q (Bur.gfS (a, z) l n).length cq, ev (Bur.gfF (a, z) l n)]) ∧ SpAt w' q (Bur.gfS (a, z) l n) ∧ Below w.heap.size w w' := by
  have hb0 : Below w.heap.size w (w.alloc (.cells #[.int .i64 a, .int .i64 z] 23)) := below_al (below_self _) _
  go_enter Tryz.func30, Tryz.ntmps30
  go_wp2_with fail
  refine (gaps a z p cap l _ hl (hs.step hb0)).mono ?_
  rintro e w1 ⟨q, cq, rfl, sq, hb1⟩
  have p0 : w1.cell? ⟨w.heap.size, 0, none⟩ = some (.int .i64 a) := (hb1.cell (p := ⟨w.heap.size, 0, none⟩) (by simp)).trans (by simp)
  have p1 : w1.cell? ⟨w.heap.size, 1, none⟩ = some (.int .i64 z) := (hb1.cell (p := ⟨w.heap.size, 1, none⟩) (by simp)).trans (by simp)
  replace hb1 := below_via hb0 hb1
  clear hs hb0
  by_cases hf : Bur.frF (a, z) l = 0
  · have e1 : Hid (ev (Bur.frF (a, z) l) = .nilIface) := by show _ = _; rw [hf]; rfl
    have F : Hid (Bur.gfF (a, z) l n = Bur.lnF (a, z) n) := if_pos hf
    have hg : Hid (Bur.gpS (a, z) l = Bur.gps (a, z) l) := if_pos hf
    rw [e1.out, hg.out]
    rw [hg.out] at sq
    clear hf hg e1
    go_wp2_with fail
    refine (checkLen a z n w1).mono ?_
    rintro e w2 ⟨rfl, hb2⟩
    have sq2 := sq.step hb2
    have hb3 := below_via hb1 hb2
    clear hb1 hb2 sq p0 p1
    by_cases hn : Bur.lnF (a, z) n = 0
    · have e1 : Hid (ev (Bur.lnF (a, z) n) = .nilIface) := by show _ = _; rw [hn]; rfl
      have S : Hid (Bur.gfS (a, z) l n = Bur.gps (a, z) l) := by show _ = _; unfold Bur.gfS; rw [F.out, if_pos hn]
      have F2 : Hid (Bur.gfF (a, z) l n = 0) := F.out.trans hn
      rw [e1.out]
      clear hn F e1
      go_wp2_with fail
      go_ret2
      exact ⟨q, cq, by rw [S.out, F2.out]; rfl, by rw [S.out]; exact sq2, hb3⟩
    · have e1 : Hid (ev (Bur.lnF (a, z) n) = errN (Bur.lnF (a, z) n)) := ev_ne hn
      have S : Hid (Bur.gfS (a, z) l n = []) := by show _ = _; unfold Bur.gfS; rw [F.out, if_neg hn]
      rw [e1.out]
      clear hn sq2
      go_wp2_with fail
      go_ret2
      exact ⟨none, 0, by rw [S.out, F.out, e1.out]; rfl, by rw [S.out]; exact SpAt.nil _ _, hb3⟩
  · have e1 : Hid (ev (Bur.frF (a, z) l) = errN (Bur.frF (a, z) l)) := ev_ne hf
    have F : Hid (Bur.gfF (a, z) l n = Bur.frF (a, z) l) := if_neg hf
    have S : Hid (Bur.gfS (a, z) l n = []) := by show _ = _; unfold Bur.gfS; rw [F.out, if_neg hf]
    rw [e1.out]
    clear hf sq p0 p1
    go_wp2_with fail
    go_ret2
    exact ⟨none, 0, by rw [S.out, F.out, e1.out]; rfl, by rw [S.out]; exact SpAt.nil _ _, hb1⟩

set_option maxRecDepth 100000 in
set_option maxHeartbeats 8000000 in
theorem freeFirst (a z n : Int) (p : Option Addr) (cap : Nat) (l : List Bur.Sp) (w : World) (hl : l.length ≤ 9223372036854775807) (hs : SpAt w p l) :
    Calls Tryz.prog 16 #[pfx a z, .slice p l.length cap, .int .i64 n] w fun e w' => e = .returned (.tuple #[pfx (Bur.fsS (a, z) l n).1 (Bur.fsS (a, z) l n).2, ev (Bur.fsF (a, z) l n)]) ∧ Below w.heap.size w w' := by
  have hb0 : Below w.heap.size w ((w.alloc (.cells #[.int .i64 a, .int .i64 z] 23)).alloc (.cells #[.int .i64 0, .int .i64 0] 23)) := below_al (below_al (below_self _) _) _
  have bx0 := Bx.new (w.alloc (.cells #[.int .i64 a, .int .i64 z] 23)) 23 0 0
  rw [World.size_alloc] at bx0
  have hb0 : Below w.heap.size w ((w.alloc (.cells #[.int .i64 a, .int .i64 z] 23)).alloc (.cells #[.int .i64 0, .int .i64 0] 23)) := below_al (below_al (below_self _) _) _
  have bx0 := Bx.new (w.alloc (.cells #[.int .i64 a, .int .i64 z] 23)) 23 0 0
  rw [World.size_alloc] at bx0
  go_enter Tryz.func16, Tryz.ntmps16
  go_wp2_with fail
  refine (gapsFor a z n p cap l _ hl (hs.step hb0)).mono ?_
  rintro e w1 ⟨q, cq, rfl, sq, hb1⟩
  have bx := bx0.step hb1
  replace hb1 := below_via hb0 hb1
  clear hs hb0 bx0
  by_cases hf : Bur.gfF (a, z) l n = 0
  · have e1 : Hid (ev (Bur.gfF (a, z) l n) = .nilIface) := by show _ = _; rw [hf]; rfl
    have hg : Hid (Bur.gfS (a, z) l n = Bur.gps (a, z) l) := if_pos hf
    obtain ⟨h0, n0, n1⟩ := Bur.gfF_ok hf
    have hone : Hid _ := Bur.gps_one h0
    have hgl := (Bur.gps_ps h0).2.1
    have hz0 : 0 ≤ z := (Bur.frF_ok h0).1.parts.1
    have hn0 : 0 ≤ n := by omega
    have F : Hid (Bur.fsF (a, z) l n = Bur.nnF (Bur.fsp (a, z) l n)) := if_pos hf
    have E : Hid (Bur.fsp (a, z) l n = Bur.fsg n (Bur.gps (a, z) l)) := (Bur.fs_fsg hf).1
    rw [e1.out, hg.out]
    rw [hg.out] at sq
    clear hf hg e1 h0 hz0
    obtain ⟨G, hG⟩ : ∃ G, Bur.gps (a, z) l = G := ⟨_, rfl⟩
    rw [hG] at hone hgl E sq ⊢
    clear hG
    go_wp2_with fail
    go_loopw [27] (fun i wr => ∃ k : Nat, k ≤ G.length ∧ i = .int .i64 k ∧ Hid (Bur.fsp (a, z) l n = Bur.fsg n (G.drop k)) ∧ Below w1.heap.size w1 wr) (fun i _ => G.length - (intOf i).toNat)
    case atStart => exact ⟨0, by omega, rfl, E, below_self _⟩
    case round =>
      obtain ⟨k, hk, rfl, R, hbw⟩ := hrel
      replace bx := bx.step hbw
      by_cases hlt : k < G.length
      · have hlt' : (k : Int) < (G.length : Int) := by omega
        obtain ⟨b, off, rfl, hbl, hc⟩ := sq (by omega)
        have hcb2 := bcell hbw
        have c0 : wr.cell? ⟨b, off + k * 2, none⟩ = some (.int .i64 (lo G k)) := (hcb2.1 _ _ hbl).trans (hc k hlt).1
        have c1 : wr.cell? ⟨b, off + k * 2 + 1, none⟩ = some (.int .i64 (hi G k)) := (hcb2.1 _ _ hbl).trans (hc k hlt).2
        have hd0 := drop_sp hlt
        have hon := hone.out (lo G k, hi G k) (List.mem_of_mem_drop (by rw [hd0]; simp))
        obtain ⟨x, hx⟩ : ∃ x, lo G k = x := ⟨_, rfl⟩
        obtain ⟨y, hy⟩ : ∃ y, hi G k = y := ⟨_, rfl⟩
        rw [hx] at c0
        rw [hy] at c1
        rw [hx, hy] at hon hd0
        have R2 : Hid (Bur.fsp (a, z) l n = if 0 < Bur.plc (Bur.sz n) (x, y) then some (Bur.upn (Bur.sz n) x) else Bur.fsg n (G.drop (k + 1))) := by show _ = _; rw [R.out, hd0, Bur.fsg]
        obtain ⟨o1, o2, o3⟩ := hon
        simp only at o1 o2 o3
        clear hc hcb2 hd0 hx hy R sq E
        go_wp2_with fail
        refine (fit x y n _ o1 o2 o3 hn0 n1).mono ?_
        rintro e w3 ⟨rfl, hb3⟩
        replace bx := (bx.step (below_al (below_self _) _)).step hb3
        have hb4 := below_via (below_al hbw _) hb3
        obtain ⟨u, hu⟩ : ∃ u, Bur.upn (Bur.sz n) x = u := ⟨_, rfl⟩
        obtain ⟨m, hm⟩ : ∃ m, Bur.plc (Bur.sz n) (x, y) = m := ⟨_, rfl⟩
        rw [hu, hm] at R2 ⊢
        clear hu hm c0 c1 hb3
        by_cases h0 : 0 < m
        · have h0' : (0 : Int) < (m : Int) := by omega
          have R3 : Hid (Bur.fsp (a, z) l n = some u) := by show _ = _; rw [R2.out, if_pos h0]
          have F2 : Hid (Bur.fsF (a, z) l n = 0) := by show _ = _; rw [F.out, R3.out]; rfl
          have S2 : Hid (Bur.fsS (a, z) l n = (u, n)) := by show _ = _; unfold Bur.fsS; rw [if_pos F2.out, R3.out]; rfl
          clear R2 F
          obtain ⟨y0, y1⟩ := bx.put u n
          obtain ⟨b0, b1, b2, b3⟩ := bx
          go_wp2_with fail
          exact bodyPost_ret (v := .tuple #[pfx u n, .nilIface]) (by simp [results, Tryz.results16, go_sem, y0, y1]) rfl ⟨by rw [S2.out, F2.out]; rfl, ((below_via hb1 hb4).setCell (by show w.heap.size ≤ w.heap.size + 1; omega) _).setCell (by show w.heap.size ≤ w.heap.size + 1; omega) _⟩
        · have h0' : (m : Int) ≤ 0 := by omega
          have R3 : Hid (Bur.fsp (a, z) l n = Bur.fsg n (G.drop (k + 1))) := by show _ = _; rw [R2.out, if_neg h0]
          clear R2 bx
          go_wp2_with fail
          exact ⟨⟨k + 1, by omega, by go_num, R3, hb4⟩, by simp [intOf]; omega⟩
      · have R3 : Hid (Bur.fsp (a, z) l n = none) := by show _ = _; rw [R.out, List.drop_eq_nil_of_le (by omega)]; rfl
        have F2 : Hid (Bur.fsF (a, z) l n = 4) := by show _ = _; rw [F.out, R3.out]; rfl
        have S2 : Hid (Bur.fsS (a, z) l n = (0, 0)) := by show _ = _; unfold Bur.fsS; rw [if_neg (by rw [F2.out]; decide)]
        clear R F sq E
        obtain ⟨y0, y1⟩ := bx.put 0 0
        obtain ⟨b0, b1, b2, b3⟩ := bx
        go_wp2_with fail
        exact bodyPost_ret (v := .tuple #[pfx 0 0, errN 4]) (by simp [results, Tryz.results16, go_sem, y0, y1]) rfl ⟨by rw [S2.out, F2.out]; rfl, ((below_via hb1 hbw).setCell (by show w.heap.size ≤ w.heap.size + 1; omega) _).setCell (by show w.heap.size ≤ w.heap.size + 1; omega) _⟩
  · have e1 : Hid (ev (Bur.gfF (a, z) l n) = errN (Bur.gfF (a, z) l n)) := ev_ne hf
    have F : Hid (Bur.fsF (a, z) l n = Bur.gfF (a, z) l n) := if_neg hf
    have S : Hid (Bur.fsS (a, z) l n = (0, 0)) := by show _ = _; unfold Bur.fsS; rw [F.out, if_neg hf]
    rw [e1.out]
    clear hf sq
    obtain ⟨y0, y1⟩ := bx.put 0 0
    obtain ⟨b0, b1, b2, b3⟩ := bx
    go_wp2_with fail
    exact bodyPost_ret (v := .tuple #[pfx 0 0, errN (Bur.gfF (a, z) l n)]) (by simp [results, Tryz.results16, go_sem, y0, y1]) rfl ⟨by rw [S.out, F.out, e1.out], (hb1.setCell (by show w.heap.size ≤ w.heap.size + 1; omega) _).setCell (by show w.heap.size ≤ w.heap.size + 1; omega) _⟩

set_option maxRecDepth 100000 in
set_option maxHeartbeats 8000000 in
theorem freeMany (a z n : Int) (p : Option Addr) (cap : Nat) (l : List Bur.Sp) (w : World) (hl : l.length ≤ 9223372036854775807) (hs : SpAt w p l) :
    Calls Tryz.prog 15 #[pfx a z, .slice p l.length cap, .int .i64 n] w fun e w' => e = .returned (.tuple #[.int .i64 (Bur.mnS (a, z) l n), ev (Bur.gfF (a, z) l n)]) ∧ Below w.heap.size w w' := by
  have hb0 : Below w.heap.size w (w.alloc (.cells #[.int .i64 a, .int .i64 z] 23)) := below_al (below_self _) _
  go_enter Tryz.func15, Tryz.ntmps15
  go_wp2_with fail
  refine (gapsFor a z n p cap l _ hl (hs.step hb0)).mono ?_
  rintro e w1 ⟨q, cq, rfl, sq, hb1⟩
  replace hb1 := below_via hb0 hb1
  clear hs hb0
  by_cases hf : Bur.gfF (a, z) l n = 0
  · have e1 : Hid (ev (Bur.gfF (a, z) l n) = .nilIface) := by show _ = _; rw [hf]; rfl
    have hg : Hid (Bur.gfS (a, z) l n = Bur.gps (a, z) l) := if_pos hf
    obtain ⟨h0, n0, n1⟩ := Bur.gfF_ok hf
    have hone : Hid _ := Bur.gps_one h0
    have hgl := (Bur.gps_ps h0).2.1
    have hz0 : 0 ≤ z := (Bur.frF_ok h0).1.parts.1
    have hn0 : 0 ≤ n := by omega
    have E : Hid (Bur.mnS (a, z) l n = Bur.mng n (Bur.gps (a, z) l)) := by show _ = _; unfold Bur.mnS; rw [if_pos hf]; exact (Bur.fs_fsg hf).2
    rw [e1.out, hg.out]
    rw [hg.out] at sq
    clear hf hg h0 hz0
    obtain ⟨G, hG⟩ : ∃ G, Bur.gps (a, z) l = G := ⟨_, rfl⟩
    rw [hG] at hone hgl E sq ⊢
    clear hG
    go_wp2_with fail
    go_loopw [10, 27] (fun v i wr => ∃ (k : Nat) (t : Int), k ≤ G.length ∧ i = .int .i64 k ∧ v = .int .i64 t ∧ 0 ≤ t ∧ t ≤ 4294967296 * k ∧ Hid (Bur.mnS (a, z) l n = t + Bur.mng n (G.drop k)) ∧ Below w1.heap.size w1 wr) (fun _ i _ => G.length - (intOf i).toNat)
    case atStart => exact ⟨0, 0, by omega, rfl, rfl, by omega, by omega, by show _ = _; rw [E.out]; simp, below_self _⟩
    case round =>
      obtain ⟨k, t, hk, rfl, rfl, t0, t1, R, hbw⟩ := hrel
      by_cases hlt : k < G.length
      · have hlt' : (k : Int) < (G.length : Int) := by omega
        obtain ⟨b, off, rfl, hbl, hc⟩ := sq (by omega)
        have hcb2 := bcell hbw
        have c0 : wr.cell? ⟨b, off + k * 2, none⟩ = some (.int .i64 (lo G k)) := (hcb2.1 _ _ hbl).trans (hc k hlt).1
        have c1 : wr.cell? ⟨b, off + k * 2 + 1, none⟩ = some (.int .i64 (hi G k)) := (hcb2.1 _ _ hbl).trans (hc k hlt).2
        have hd0 := drop_sp hlt
        have hon := hone.out (lo G k, hi G k) (List.mem_of_mem_drop (by rw [hd0]; simp))
        obtain ⟨x, hx⟩ : ∃ x, lo G k = x := ⟨_, rfl⟩
        obtain ⟨y, hy⟩ : ∃ y, hi G k = y := ⟨_, rfl⟩
        rw [hx] at c0
        rw [hy] at c1
        rw [hx, hy] at hon hd0
        have R2 : Hid (Bur.mnS (a, z) l n = t + Bur.plc (Bur.sz n) (x, y) + Bur.mng n (G.drop (k + 1))) := by show _ = _; rw [R.out, hd0, Bur.mng]; omega
        obtain ⟨o1, o2, o3⟩ := hon
        simp only at o1 o2 o3
        have hpl := Bur.plc_le (g := (x, y)) (Bur.sz_pos n) o1 o3
        clear hc hcb2 hd0 hx hy R sq E
        go_wp2_with fail
        refine (fit x y n _ o1 o2 o3 hn0 n1).mono ?_
        rintro e w3 ⟨rfl, hb3⟩
        have hb4 := below_via (below_al hbw _) hb3
        obtain ⟨m, hm⟩ : ∃ m, Bur.plc (Bur.sz n) (x, y) = m := ⟨_, rfl⟩
        rw [hm] at R2 hpl ⊢
        clear hm c0 c1 hb3
        go_wp2_with fail
        exact ⟨⟨k + 1, t + m, by omega, by go_num, by go_num, by omega, by omega, R2, hb4⟩, by simp [intOf]; omega⟩
      · have R3 : Hid (Bur.mnS (a, z) l n = t) := by show _ = _; rw [R.out, List.drop_eq_nil_of_le (by omega)]; simp [Bur.mng]
        clear R sq E
        go_wp2_with fail
        go_ret2
        exact ⟨by rw [R3.out, e1.out]; rfl, below_via hb1 hbw⟩
  · have e1 : Hid (ev (Bur.gfF (a, z) l n) = errN (Bur.gfF (a, z) l n)) := ev_ne hf
    have S : Hid (Bur.mnS (a, z) l n = 0) := if_neg hf
    rw [e1.out]
    clear hf sq
    go_wp2_with fail
    go_ret2
    exact ⟨by rw [S.out, e1.out]; rfl, hb1⟩

set_option maxRecDepth 100000 in
set_option maxHeartbeats 8000000 in
theorem freeBest (a z n : Int) (p : Option Addr) (cap : Nat) (l : List Bur.Sp) (w : World) (hl : l.length ≤ 9223372036854775807) (hs : SpAt w p l) (hT : Tab w) :
    Calls Tryz.prog 17 #[pfx a z, .slice p l.length cap, .int .i64 n] w fun e w' => e = .returned (.tuple #[pfx (Bur.bsS (a, z) l n).1 (Bur.bsS (a, z) l n).2, ev (Bur.bsF (a, z) l n)]) ∧ Below w.heap.size w w' := by
  have hb0 : Below w.heap.size w ((w.alloc (.cells #[.int .i64 a, .int .i64 z] 23)).alloc (.cells #[.int .i64 0, .int .i64 0] 23)) := below_al (below_al (below_self _) _) _
  have bx0 := Bx.new (w.alloc (.cells #[.int .i64 a, .int .i64 z] 23)) 23 0 0
  rw [World.size_alloc] at bx0
  have pa : ((w.alloc (.cells #[.int .i64 a, .int .i64 z] 23)).alloc (.cells #[.int .i64 0, .int .i64 0] 23)).cell? ⟨w.heap.size, 0, none⟩ = some (.int .i64 a) := by go_simp
  have pz : ((w.alloc (.cells #[.int .i64 a, .int .i64 z] 23)).alloc (.cells #[.int .i64 0, .int .i64 0] 23)).cell? ⟨w.heap.size, 1, none⟩ = some (.int .i64 z) := by go_simp
  go_enter Tryz.func17, Tryz.ntmps17
  go_wp2_with fail
  refine (freeBlocks a z p cap l _ hl (hs.step hb0) (hT.step hb0 hT.lt)).mono ?_
  rintro e w1 ⟨q, cq, rfl, sq, hb1⟩
  have bx := bx0.step hb1
  replace pa := (hb1.cell (World.block_lt_of_cell? _ _ pa)).trans pa
  replace pz := (hb1.cell (World.block_lt_of_cell? _ _ pz)).trans pz
  replace hb1 := below_via hb0 hb1
  have hbl := Bur.bkS_len (a, z) l
  clear hs hb0 bx0 hT
  by_cases hf : Bur.bkF (a, z) l = 0
  · have e1 : Hid (ev (Bur.bkF (a, z) l) = .nilIface) := by show _ = _; rw [hf]; rfl
    have hg : Hid (Bur.bkS (a, z) l = Bur.bks (a, z) l) := if_pos hf
    have F : Hid (Bur.bsF (a, z) l n = if Bur.lnF (a, z) n = 0 then Bur.nnF (Bur.bst n none (Bur.bks (a, z) l)) else Bur.lnF (a, z) n) := if_pos hf
    rw [e1.out, hg.out]
    rw [hg.out] at sq hbl
    clear hf hg e1
    go_wp2_with fail
    refine (checkLen a z n w1).mono ?_
    rintro e w2 ⟨rfl, hb2⟩
    replace sq := sq.step hb2
    replace bx := bx.step hb2
    have hb3 := below_via hb1 hb2
    clear hb1 hb2 pa pz
    by_cases hn : Bur.lnF (a, z) n = 0
    · have e1 : Hid (ev (Bur.lnF (a, z) n) = .nilIface) := by show _ = _; rw [hn]; rfl
      have F1 : Hid (Bur.bsF (a, z) l n = Bur.nnF (Bur.bst n none (Bur.bks (a, z) l))) := by show _ = _; rw [F.out, if_pos hn]
      have S1 : Hid (Bur.bsS (a, z) l n = if Bur.bsF (a, z) l n = 0 then (((Bur.bst n none (Bur.bks (a, z) l)).getD (0, 0)).1, n) else (0, 0)) := rfl
      rw [e1.out]
      clear hn F e1
      obtain ⟨BL, hBL⟩ : ∃ BL, Bur.bks (a, z) l = BL := ⟨_, rfl⟩
      rw [hBL] at F1 S1 hbl sq ⊢
      clear hBL
      go_wp2_with fail
      refine (tightest q cq BL n w2 hbl sq).mono ?_
      rintro e w3 ⟨rfl, hb4⟩
      replace bx := bx.step hb4
      have hb5 := below_via hb3 hb4
      clear hb3 hb4 sq
      obtain ⟨c, hc⟩ : ∃ c, Bur.bst n none BL = c := ⟨_, rfl⟩
      rw [hc] at F1 S1 ⊢
      clear hc
      cases c with
      | none =>
        have F2 : Hid (Bur.bsF (a, z) l n = 4) := F1.out
        have S2 : Hid (Bur.bsS (a, z) l n = (0, 0)) := by show _ = _; rw [S1.out, if_neg (by rw [F2.out]; decide)]
        simp only [Option.isSome_none, Option.getD_none]
        clear F1 S1
        replace bx := bx.step (below_al (below_self _) (.cells #[.int .i64 0, .int .i64 0] 23))
        obtain ⟨y0, y1⟩ := bx.put 0 0
        obtain ⟨b0, b1, b2, b3⟩ := bx
        go_wp2_with fail
        exact bodyPost_ret (v := .tuple #[pfx 0 0, errN 4]) (by simp [results, Tryz.results17, go_sem, y0, y1]) rfl ⟨by rw [S2.out, F2.out]; rfl, ((below_al hb5 _).setCell (by show w.heap.size ≤ w.heap.size + 1; omega) _).setCell (by show w.heap.size ≤ w.heap.size + 1; omega) _⟩
      | some s =>
        obtain ⟨s1, s2⟩ := s
        have F2 : Hid (Bur.bsF (a, z) l n = 0) := F1.out
        have S2 : Hid (Bur.bsS (a, z) l n = (s1, n)) := by show _ = _; rw [S1.out, if_pos F2.out]; rfl
        simp only [Option.isSome_some, Option.getD_some]
        clear F1 S1
        replace bx := bx.step (below_al (below_self _) (.cells #[.int .i64 s1, .int .i64 s2] 23))
        obtain ⟨y0, y1⟩ := bx.put s1 n
        obtain ⟨b0, b1, b2, b3⟩ := bx
        go_wp2_with fail
        exact bodyPost_ret (v := .tuple #[pfx s1 n, .nilIface]) (by simp [results, Tryz.results17, go_sem, y0, y1]) rfl ⟨by rw [S2.out, F2.out]; rfl, ((below_al hb5 _).setCell (by show w.heap.size ≤ w.heap.size + 1; omega) _).setCell (by show w.heap.size ≤ w.heap.size + 1; omega) _⟩
    · have e1 : Hid (ev (Bur.lnF (a, z) n) = errN (Bur.lnF (a, z) n)) := ev_ne hn
      have F1 : Hid (Bur.bsF (a, z) l n = Bur.lnF (a, z) n) := by show _ = _; rw [F.out, if_neg hn]
      have S1 : Hid (Bur.bsS (a, z) l n = (0, 0)) := by show _ = _; unfold Bur.bsS; rw [F1.out, if_neg hn]
      rw [e1.out]
      clear hn sq F
      obtain ⟨y0, y1⟩ := bx.put 0 0
      obtain ⟨b0, b1, b2, b3⟩ := bx
      go_wp2_with fail
      exact bodyPost_ret (v := .tuple #[pfx 0 0, errN (Bur.lnF (a, z) n)]) (by simp [results, Tryz.results17, go_sem, y0, y1]) rfl ⟨by rw [S1.out, F1.out, e1.out], (hb3.setCell (by show w.heap.size ≤ w.heap.size + 1; omega) _).setCell (by show w.heap.size ≤ w.heap.size + 1; omega) _⟩
  · have e1 : Hid (ev (Bur.bkF (a, z) l) = errN (Bur.bkF (a, z) l)) := ev_ne hf
    have F : Hid (Bur.bsF (a, z) l n = Bur.bkF (a, z) l) := if_neg hf
    have S : Hid (Bur.bsS (a, z) l n = (0, 0)) := by show _ = _; unfold Bur.bsS; rw [F.out, if_neg hf]
    rw [e1.out]
    clear hf sq pa pz
    obtain ⟨y0, y1⟩ := bx.put 0 0
    obtain ⟨b0, b1, b2, b3⟩ := bx
    go_wp2_with fail
    exact bodyPost_ret (v := .tuple #[pfx 0 0, errN (Bur.bkF (a, z) l)]) (by simp [results, Tryz.results17, go_sem, y0, y1]) rfl ⟨by rw [S.out, F.out, e1.out], (hb1.setCell (by show w.heap.size ≤ w.heap.size + 1; omega) _).setCell (by show w.heap.size ≤ w.heap.size + 1; omega) _⟩
end Go.Proofs.YtfhidiedmenliaaGreatDoor
