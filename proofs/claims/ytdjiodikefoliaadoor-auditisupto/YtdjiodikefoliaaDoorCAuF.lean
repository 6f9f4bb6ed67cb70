/- Package audit: the pairs are looked at, one by one. -/
import Derived.Test.YtdjiodikefoliaaDoorCQC
namespace Bur
/-- What is wrong with a pair, as it is asked. -/
theorem auE_fnz {L : List Vs.Pr} {c : Option ByteArray} {x : Vs.Pr} (hx : x ∈ L) :
    (ek x = none → ∀ a b : Int, fnz [plE c x.1, 5, nmF x.2.data.toList, a, b] = auE L c x) ∧
    (∀ e, ek x = some e → fnz [plE c x.1, 0, nmF x.2.data.toList, (if hasN L e.2.1 = true then 0 else 4), (if e.1 = 3 ∧ hasA L e.2.1 e.2.2.1 = false then 7 else 0)] = auE L c x) := by
  constructor
  · intro h a b
    unfold auE
    rw [h]
    by_cases h0 : plE c x.1 = 0
    · simp [fnz, h0]
    · simp [fnz, h0]
  · intro e h
    unfold auE
    rw [h]
    simp only
    have hself : e.1 = 1 → hasN L e.2.1 = true := fun h1 => by
      unfold hasN
      rw [List.any_eq_true]
      exact ⟨x, hx, isE_iff.2 ⟨e.2.2, by rw [h, ← h1], rfl⟩⟩
    by_cases h0 : plE c x.1 = 0
    · by_cases hn : isN x.2.data.toList = true
      · by_cases h1 : e.1 = 1
        · have := hself h1
          have h3 : ¬ e.1 = 3 := by omega
          simp [fnz, h0, nmF, hn, this, h1]
        · by_cases h2 : hasN L e.2.1 = true
          · simp [fnz, h0, nmF, hn, h2, h1]
          · simp [fnz, h0, nmF, hn, h2, h1]
      · simp [fnz, h0, nmF, hn]
    · simp [fnz, h0]
theorem plE_bd (c : Option ByteArray) (k : ByteArray) : plE c k = 0 ∨ plE c k = 2 := by
  unfold plE
  cases c with
  | none => exact .inl rfl
  | some x => simp only; split <;> simp
end Bur
namespace Go.Proofs.YtdjiodikefoliaaDoor.Au
open Go.RowKit Go.Maps Pa

/-- A box of an entry. -/
structure Eb (w : World) (b : Nat) (k : Int) (n : List UInt8) (x l : Int) : Prop where
  c0 : w.cell? ⟨b, 0, none⟩ = some (.int .i64 k)
  c1 : w.cell? ⟨b, 1, none⟩ = some (.string ⟨n.toArray⟩)
  c2 : w.cell? ⟨b, 2, none⟩ = some (.int .i64 x)
  c3 : w.cell? ⟨b, 3, none⟩ = some (.int .i64 l)
theorem Eb.lt {w : World} {b : Nat} {k : Int} {n : List UInt8} {x l : Int} (h : Eb w b k n x l) : b < w.heap.size := World.block_lt_of_cell? _ _ h.c0
theorem Eb.step {w w' : World} {b : Nat} {k : Int} {n : List UInt8} {x l : Int} (h : Eb w b k n x l) (hb : Below w.heap.size w w') : Eb w' b k n x l :=
  ⟨(hb.cell (p := ⟨b, 0, none⟩) h.lt).trans h.c0, (hb.cell (p := ⟨b, 1, none⟩) h.lt).trans h.c1, (hb.cell (p := ⟨b, 2, none⟩) h.lt).trans h.c2, (hb.cell (p := ⟨b, 3, none⟩) h.lt).trans h.c3⟩
/-- All that one round reads. -/
structure Rd1 (w : World) (S P E A B : Nat) (L : List Vs.Pr) (p : Option Addr) (v : ByteArray) (k : Int) (n : List UInt8) (x l : Int) : Prop where
  s0 : w.cell? ⟨S, 0, none⟩ = some (.map (some A))
  s1 : w.cell? ⟨S, 1, none⟩ = some (.map (some B))
  p1 : w.cell? ⟨P, 1, none⟩ = some (.string v)
  e : Eb w E k n x l
  g : Sg w A B L
  l : PrAt w p L
theorem Rd1.step {w w' : World} {S P E A B : Nat} {L : List Vs.Pr} {p : Option Addr} {v : ByteArray} {k : Int} {n : List UInt8} {x l : Int} (h : Rd1 w S P E A B L p v k n x l) (hb : Below w.heap.size w w') : Rd1 w' S P E A B L p v k n x l :=
  ⟨(hb.cell (p := ⟨S, 0, none⟩) (World.block_lt_of_cell? _ _ h.s0)).trans h.s0, (hb.cell (p := ⟨S, 1, none⟩) (World.block_lt_of_cell? _ _ h.s1)).trans h.s1, (hb.cell (p := ⟨P, 1, none⟩) (World.block_lt_of_cell? _ _ h.p1)).trans h.p1, h.e.step hb, h.g.step hb, h.l.step hb⟩
theorem five_cells (w : World) (t : Nat) (a b c d e : Int) : ∀ (i : Nat) (f : Int), [a, b, c, d, e][i]? = some f → (w.alloc (.cells #[ev a, ev b, ev c, ev d, ev e] t)).cell? ⟨w.heap.size, i, none⟩ = some (ev f)
  | 0, f, h => by simp at h; subst h; simp
  | 1, f, h => by simp at h; subst h; simp
  | 2, f, h => by simp at h; subst h; simp
  | 3, f, h => by simp at h; subst h; simp
  | 4, f, h => by simp at h; subst h; simp
  | i + 5, f, h => by simp at h
theorem ev_cells (f : Int) : ∃ v : Value, Hid (v = ev f) ∧ v.cells = #[v] := ⟨ev f, rfl, by unfold ev; split <;> rfl⟩
set_option maxRecDepth 100000 in
set_option maxHeartbeats 8000000 in
theorem auChecks (L : List Vs.Pr) (p : Option Addr) (cap A B : Nat) (w : World) (hg : Sg w A B L) (hp : PrAt w p L) (hl : L.length ≤ 1000) (hk : ∀ x ∈ L, x.1.size < 4294967281) (hm : MaxL w) :
    Calls Tryd.prog 17 #[sgV A B, .slice p L.length cap] w fun e w' => e = .returned (.tuple #[.int .i64 (Bur.auP L).1, ev (Bur.auP L).2]) ∧ Below w.heap.size w w' := by
  obtain ⟨R, hR⟩ : ∃ R, R = Bur.auP L := ⟨_, rfl⟩
  have hR0 : Hid (R = Bur.auG L (L.length - 0) 0) := hR
  rw [← hR]
  have b0 := below_al (below_self w) (.cells #[.map (some A), .map (some B)] 55)
  have s0 : (w.alloc (.cells #[.map (some A), .map (some B)] 55)).cell? ⟨w.heap.size, 0, none⟩ = some (.map (some A)) := by simp
  have s1 : (w.alloc (.cells #[.map (some A), .map (some B)] 55)).cell? ⟨w.heap.size, 1, none⟩ = some (.map (some B)) := by simp
  have ST : Hid _ := And.intro b0 (And.intro s0 s1)
  clear b0 s0 s1 hR
  unfold sgV
  go_enter Tryd.func17, Tryd.ntmps17
  go_wp2
  go_loopw [13] (fun i wr => ∃ k : Nat, k ≤ L.length ∧ i = .int .i64 k ∧ Hid (R = Bur.auG L (L.length - k) k) ∧ wr.cell? ⟨w.heap.size, 0, none⟩ = some (.map (some A)) ∧ wr.cell? ⟨w.heap.size, 1, none⟩ = some (.map (some B)) ∧ Below w.heap.size w wr) (fun i _ => L.length - (intOf i).toNat)
  case atStart =>
    obtain ⟨b0, s0, s1⟩ := ST.out
    exact ⟨0, by omega, rfl, hR0, s0, s1, b0⟩
  case round =>
    obtain ⟨k, hkl, rfl, hM, s0, s1, hb⟩ := hrel
    clear ST hR0
    by_cases hlt : k < L.length
    · have hlt' : (k : Int) < (L.length : Int) := by omega
      obtain ⟨x, hx⟩ : ∃ x, L[k]? = some x := ⟨L[k], List.getElem?_eq_getElem hlt⟩
      have hpr := hp.step hb
      have hp2 := hpr
      obtain ⟨b, off, rfl, hbl, hc⟩ := hpr (by omega)
      obtain ⟨d0, d1⟩ := hc k x hx
      have hmem := List.mem_of_getElem? hx
      have hkx := hk x hmem
      obtain ⟨W, hW⟩ : ∃ W, W = wr.alloc (.cells #[.string x.1, .string x.2] 47) := ⟨_, rfl⟩
      have bW : Below wr.heap.size wr W := by rw [hW]; exact below_al (below_self _) _
      have pW : W.cell? ⟨wr.heap.size, 1, none⟩ = some (.string x.2) := by rw [hW]; simp
      have KR := auRead x.1.data.toList W (by have : x.1.data.toList.length = x.1.size := Array.length_toList
                                              omega) (hm.step (below_via hb bW))
      rw [show (⟨x.1.data.toList.toArray⟩ : ByteArray) = x.1 from by cases x.1; simp] at KR
      obtain ⟨kd, n, xa, xl, f2, hKR, hn, h3, hE⟩ : ∃ (kd : Int) (n : List UInt8) (xa xl f2 : Int), (Calls Tryd.prog 32 #[.string x.1] W fun e w' => e = .returned (.tuple #[.agg #[.int .i64 kd, .string ⟨n.toArray⟩, .int .i64 xa, .int .i64 xl], ev f2]) ∧ Below W.heap.size W w') ∧ n.length ≤ maxLen ∧ (kd = 3 → xl = 32 ∧ Bur.isA xa = true) ∧ Bur.fnz [Bur.plE (Bur.prv L k) x.1, f2, Bur.nmF x.2.data.toList, fnF L n, caF L kd n xa] = Bur.auE L (Bur.prv L k) x := by
        obtain ⟨z1, z2⟩ := Bur.auE_fnz (c := Bur.prv L k) hmem
        cases hEk : Bur.ek x with
        | none =>
          have hEk' : Bur.enK x.1.data.toList = none := hEk
          rw [hEk'] at KR
          exact ⟨0, [], 0, 0, 5, KR, by simp, fun h => by omega, z1 hEk _ _⟩
        | some e =>
          have hEk' : Bur.enK x.1.data.toList = some e := hEk
          rw [hEk'] at KR
          have hN := (Bur.isN_ok (Bur.en_isN hEk')).2.1
          refine ⟨e.1, e.2.1, e.2.2.1, e.2.2.2, 0, KR, by unfold maxLen; omega, fun h => ?_, z2 e hEk⟩
          obtain ⟨e1, e2, e3⟩ := e
          have h : e1 = 3 := h
          subst h
          obtain ⟨a, ha, _, rfl⟩ := Bur.en_three hEk'
          exact ⟨rfl, Bur.raK_isA ha⟩
      have hEA : Bur.auAt L k = Bur.fnz [Bur.plE (Bur.prv L k) x.1, f2, Bur.nmF x.2.data.toList, fnF L n, caF L kd n xa] := by
        unfold Bur.auAt
        rw [hx, hE]
      have HA : Hid _ := hEA
      have rd : ∀ w3 : World, Below W.heap.size W w3 → Rd1 (w3.alloc (.cells #[.int .i64 kd, .string ⟨n.toArray⟩, .int .i64 xa, .int .i64 xl] 79)) w.heap.size wr.heap.size w3.heap.size A B L (some ⟨b, off, none⟩) x.2 kd n xa xl ∧ Below wr.heap.size wr (w3.alloc (.cells #[.int .i64 kd, .string ⟨n.toArray⟩, .int .i64 xa, .int .i64 xl] 79)) := fun w3 h3' => by
        have q := below_al (below_via bW h3') (.cells #[.int .i64 kd, .string ⟨n.toArray⟩, .int .i64 xa, .int .i64 xl] 79)
        have q2 := below_al h3' (.cells #[.int .i64 kd, .string ⟨n.toArray⟩, .int .i64 xa, .int .i64 xl] 79)
        exact ⟨⟨(q.cell (p := ⟨w.heap.size, 0, none⟩) (World.block_lt_of_cell? _ _ s0)).trans s0, (q.cell (p := ⟨w.heap.size, 1, none⟩) (World.block_lt_of_cell? _ _ s1)).trans s1, (q2.cell (p := ⟨wr.heap.size, 1, none⟩) (World.block_lt_of_cell? _ _ pW)).trans pW, ⟨by simp, by simp, by simp, by simp⟩, hg.step (below_via hb q), hp.step (below_via hb q)⟩, q⟩
      have RH : Hid _ := rd
      have K1 := fun W' hp' => auPlace L (some ⟨b, off, none⟩) cap k x W' hp' hx (by omega)
      have K2 := fun W' => plName x.2 W'
      have K3 := fun W' (hg' : Sg W' A B L) => auFindNet hg' hn
      have K4 := fun W' (hg' : Sg W' A B L) => auCheckAddr hg' hn h3
      unfold sgV at K3 K4
      generalize Bur.plE (Bur.prv L k) x.1 = F1 at K1 HA
      generalize Bur.nmF x.2.data.toList = F3 at K2 HA
      generalize fnF L n = F4 at K3 HA
      generalize caF L kd n xa = F5 at K4 HA
      have K5 := fun (W' : World) => auFirst [F1, f2, F3, F4, F5] W'.heap.size 5 (W'.alloc (.cells #[ev F1, ev f2, ev F3, ev F4, ev F5] 29)) (five_cells W' _ F1 f2 F3 F4 F5) (by simp)
      obtain ⟨V1, E1, C1⟩ := ev_cells F1
      obtain ⟨V2, E2, C2⟩ := ev_cells f2
      obtain ⟨V3, E3, C3⟩ := ev_cells F3
      obtain ⟨V4, E4, C4⟩ := ev_cells F4
      obtain ⟨V5, E5, C5⟩ := ev_cells F5
      unfold Value.cells at C1 C2 C3 C4 C5
      rw [← E1.out] at K1
      rw [← E2.out] at hKR
      rw [← E3.out] at K2
      rw [← E4.out] at K3
      rw [← E5.out] at K4
      rw [← E1.out, ← E2.out, ← E3.out, ← E4.out, ← E5.out] at K5
      clear rd hEA hE h3 hc hkx KR hpr pW bW
      go_wp2_with (go_at_call 32; rw [← hW]; refine hKR.mono ?_; clear hKR; rintro e w3 ⟨rfl, hb3⟩)
      obtain ⟨r0, bx⟩ := RH.out w3 hb3
      obtain ⟨Z, hZ⟩ : ∃ Z, Z = w3.alloc (.cells #[.int .i64 kd, .string ⟨n.toArray⟩, .int .i64 xa, .int .i64 xl] 79) := ⟨_, rfl⟩
      rw [← hZ] at r0 bx ⊢
      have HZ : Hid _ := hZ
      clear hZ HZ
      by_cases h0 : Bur.auAt L k = 0
      · have hM2 : Hid (R = Bur.auG L (L.length - (k + 1)) (k + 1)) := by show _ = _; rw [hM.out]; exact Bur.auG_go hlt h0
        rw [← HA.out, h0, ev_0] at K5
        clear h0 hM HA
        go_region_held3 (fun wy => wy.cell? ⟨w.heap.size, 0, none⟩ = some (.map (some A)) ∧ wy.cell? ⟨w.heap.size, 1, none⟩ = some (.map (some B)) ∧ wy.cell? ⟨wr.heap.size, 1, none⟩ = some (.string x.2) ∧ wy.cell? ⟨w3.heap.size, 0, none⟩ = some (.int .i64 kd) ∧ wy.cell? ⟨w3.heap.size, 1, none⟩ = some (.string ⟨n.toArray⟩) ∧ wy.cell? ⟨w3.heap.size, 2, none⟩ = some (.int .i64 xa) ∧ wy.cell? ⟨w3.heap.size, 3, none⟩ = some (.int .i64 xl)) (first | exact ⟨r4.s0, r4.s1, r4.p1, r4.e.c0, r4.e.c1, r4.e.c2, r4.e.c3⟩ | exact ⟨r3.s0, r3.s1, r3.p1, r3.e.c0, r3.e.c1, r3.e.c2, r3.e.c3⟩ | exact ⟨r2.s0, r2.s1, r2.p1, r2.e.c0, r2.e.c1, r2.e.c2, r2.e.c3⟩ | exact ⟨r1.s0, r1.s1, r1.p1, r1.e.c0, r1.e.c1, r1.e.c2, r1.e.c3⟩ | exact ⟨r0.s0, r0.s1, r0.p1, r0.e.c0, r0.e.c1, r0.e.c2, r0.e.c3⟩ | exact ⟨(r4.step (below_al (below_self _) _)).s0, (r4.step (below_al (below_self _) _)).s1, (r4.step (below_al (below_self _) _)).p1, (r4.step (below_al (below_self _) _)).e.c0, (r4.step (below_al (below_self _) _)).e.c1, (r4.step (below_al (below_self _) _)).e.c2, (r4.step (below_al (below_self _) _)).e.c3⟩)
        (first
          | (go_at_call 33; refine (K1 _ (r0.step (below_self _).drew).l).mono ?_; rintro e w4 ⟨rfl, hb4⟩; have r1 := (r0.step (below_self _).drew).step hb4)
          | (go_at_call 34; refine (K2 _).mono ?_; rintro e w5 ⟨rfl, hb5⟩; have r2 := r1.step hb5)
          | (go_at_call 21; refine (K3 _ r2.g).mono ?_; rintro e w6 ⟨rfl, hb6⟩; have r3 := r2.step hb6)
          | (go_at_call 35; refine (K4 _ r3.g).mono ?_; rintro e w7 ⟨rfl, hb7⟩; have r4 := r3.step hb7)
          | (go_at_call 20; refine (K5 _).mono ?_; rintro e w8 ⟨rfl, rfl⟩))
        have hbz := below_al (below_via (below_via (below_via (below_via bx.drew hb4) hb5) hb6) hb7) (.cells #[V1, V2, V3, V4, V5] 29)
        have hcs := (r4.step (below_al (below_self _) (.cells #[V1, V2, V3, V4, V5] 29)))
        go_wp2
        exact ⟨⟨k + 1, by omega, by go_num, hM2, hcs.s0, hcs.s1, below_via hb hbz⟩, by simp [intOf]; omega⟩
      · have hM2 : Hid (R = ((k : Int), Bur.auAt L k)) := by show _ = _; rw [hM.out]; exact Bur.auG_no hlt h0
        have hE0 : Hid (ev (Bur.auAt L k) = errN (Bur.auAt L k)) := ev_ne h0
        rw [← HA.out, ev_ne h0] at K5
        clear h0 hM HA
        go_region_held3 (fun wy => wy.cell? ⟨w.heap.size, 0, none⟩ = some (.map (some A)) ∧ wy.cell? ⟨w.heap.size, 1, none⟩ = some (.map (some B)) ∧ wy.cell? ⟨wr.heap.size, 1, none⟩ = some (.string x.2) ∧ wy.cell? ⟨w3.heap.size, 0, none⟩ = some (.int .i64 kd) ∧ wy.cell? ⟨w3.heap.size, 1, none⟩ = some (.string ⟨n.toArray⟩) ∧ wy.cell? ⟨w3.heap.size, 2, none⟩ = some (.int .i64 xa) ∧ wy.cell? ⟨w3.heap.size, 3, none⟩ = some (.int .i64 xl)) (first | exact ⟨r4.s0, r4.s1, r4.p1, r4.e.c0, r4.e.c1, r4.e.c2, r4.e.c3⟩ | exact ⟨r3.s0, r3.s1, r3.p1, r3.e.c0, r3.e.c1, r3.e.c2, r3.e.c3⟩ | exact ⟨r2.s0, r2.s1, r2.p1, r2.e.c0, r2.e.c1, r2.e.c2, r2.e.c3⟩ | exact ⟨r1.s0, r1.s1, r1.p1, r1.e.c0, r1.e.c1, r1.e.c2, r1.e.c3⟩ | exact ⟨r0.s0, r0.s1, r0.p1, r0.e.c0, r0.e.c1, r0.e.c2, r0.e.c3⟩ | exact ⟨(r4.step (below_al (below_self _) _)).s0, (r4.step (below_al (below_self _) _)).s1, (r4.step (below_al (below_self _) _)).p1, (r4.step (below_al (below_self _) _)).e.c0, (r4.step (below_al (below_self _) _)).e.c1, (r4.step (below_al (below_self _) _)).e.c2, (r4.step (below_al (below_self _) _)).e.c3⟩)
        (first
          | (go_at_call 33; refine (K1 _ (r0.step (below_self _).drew).l).mono ?_; rintro e w4 ⟨rfl, hb4⟩; have r1 := (r0.step (below_self _).drew).step hb4)
          | (go_at_call 34; refine (K2 _).mono ?_; rintro e w5 ⟨rfl, hb5⟩; have r2 := r1.step hb5)
          | (go_at_call 21; refine (K3 _ r2.g).mono ?_; rintro e w6 ⟨rfl, hb6⟩; have r3 := r2.step hb6)
          | (go_at_call 35; refine (K4 _ r3.g).mono ?_; rintro e w7 ⟨rfl, hb7⟩; have r4 := r3.step hb7)
          | (go_at_call 20; refine (K5 _).mono ?_; rintro e w8 ⟨rfl, rfl⟩))
        have hbz := below_al (below_via (below_via (below_via (below_via bx.drew hb4) hb5) hb6) hb7) (.cells #[V1, V2, V3, V4, V5] 29)
        go_wp2
        go_ret2
        exact ⟨by rw [hM2.out]; exact congrArg (fun v => Ending.returned (.tuple #[.int .i64 (k : Int), v])) hE0.out.symm, below_via hb hbz⟩
    · have hlt' : ¬ (k : Int) < (L.length : Int) := by omega
      have hE : Hid (R = (0, 0)) := by
        show _ = _
        rw [hM.out, show L.length - k = 0 from by omega]; rfl
      clear hM
      go_wp2
      go_ret2
      exact ⟨by rw [hE.out]; rfl, hb⟩
end Go.Proofs.YtdjiodikefoliaaDoor.Au
