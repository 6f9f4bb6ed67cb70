/- The contract of package code's Decode. -/
import Derived.Test.YteipfdjpndhgkaaGreatDoorCMX
import Derived.Defers
import Derived.Recover
import Derived.Stop.Asserts
namespace Go.Proofs.YteipfdjpndhgkaaGreatDoor
open Go.RowKit Go.Lib

theorem catch_idle (p q : Addr) (w : World) :
    CallsD Tryz.prog 135 #[.pointer (some p), .pointer (some q)] .returning w fun e u' w' => e = .returned (.tuple #[]) ∧ u' = .returning ∧ w' = w := by
  refine callsD_of_wpS Tryz.func135 rfl fun c₀ cs hu => ?_
  apply wpS_seq
  apply wpS_region
  simp [wpOpsS, go_sem, recoverD, hu, Tryz.ntmps135, Exit.thenS]
  rw [show (#[Value.pointer (some p), Value.pointer (some q)] ++ ((Array.replicate 15 undef).setIfInBounds 3 Value.nilIface).setIfInBounds 0 Value.nilIface) = #[.pointer (some p), .pointer (some q), .nilIface, undef, undef, .nilIface, undef, undef, undef, undef, undef, undef, undef, undef, undef, undef, undef] from rfl]
  refine wpS_of_wp ?_
  go_wp2
  cases c₀
  simp_all [bodyPostS, results, Tryz.results135]
theorem assert_halt (x : TypeId) (w : World) : (Instr.typeAssert haltV x 217 true).run Tryz.prog w = .ok (.tuple #[.agg #[], .bool true]) w := by
  simp [Instr.typeAssert, run_underlying Tryz.underlying217]
set_option maxRecDepth 30000 in
theorem catch_halt (lb eb : Nat) (v0 v1 : Value) (w : World) (hp : w.cell? ⟨lb, 0, none⟩ = some v0) (hq : w.cell? ⟨eb, 0, none⟩ = some v1) (zp : w.frozen? ⟨lb, 0, none⟩ = false) (zq : w.frozen? ⟨eb, 0, none⟩ = false) (hne : lb ≠ eb) :
    CallsD Tryz.prog 135 #[.pointer (some ⟨lb, 0, none⟩), .pointer (some ⟨eb, 0, none⟩)] (.panicking haltC) w fun e u' w' => e = .returned (.tuple #[]) ∧ u' = .panicking [{ v := haltV, recovered := true }] ∧ w'.cell? ⟨lb, 0, none⟩ = some (.slice none 0 0) ∧ w'.cell? ⟨eb, 0, none⟩ = some (errN 5) ∧ But (fun k => k = lb ∨ k = eb) w w' := by
  have hl := World.block_lt_of_cell? _ _ hp
  have he := World.block_lt_of_cell? _ _ hq
  refine callsD_of_wpS Tryz.func135 rfl fun c₀ cs hu => ?_
  apply wpS_seq
  apply wpS_region
  simp [wpOpsS, go_sem, recoverD, hu, Tryz.ntmps135, Exit.thenS]
  rw [show (#[Value.pointer (some ⟨lb, 0, none⟩), Value.pointer (some ⟨eb, 0, none⟩)] ++ ((Array.replicate 15 undef).setIfInBounds 3 haltV).setIfInBounds 0 haltV) = #[.pointer (some ⟨lb, 0, none⟩), .pointer (some ⟨eb, 0, none⟩), haltV, undef, undef, haltV, undef, undef, undef, undef, undef, undef, undef, undef, undef, undef, undef] from rfl]
  refine wpS_of_wp ?_
  have hta := fun (x : TypeId) (W : World) => assert_halt x W
  go_wp2
  have b1 : ((w.setCell ⟨lb, 0, none⟩ (.slice none 0 0)).setCell ⟨eb, 0, none⟩ (errN 5)).cell? ⟨lb, 0, none⟩ = some (.slice none 0 0) := by
    rw [World.cell?_setCell_other _ _ _ _ (by intro e; have := congrArg Addr.block e; simp at this; omega)]; exact World.cell?_setCell_same _ _ _ hp
  have b2 : ((w.setCell ⟨lb, 0, none⟩ (.slice none 0 0)).setCell ⟨eb, 0, none⟩ (errN 5)).cell? ⟨eb, 0, none⟩ = some (errN 5) :=
    World.cell?_setCell_same _ _ _ (by rw [World.cell?_setCell_other _ _ _ _ (by intro e; have := congrArg Addr.block e; simp at this; omega)]; exact hq)
  have hB := below_al (below_self ((w.setCell ⟨lb, 0, none⟩ (.slice none 0 0)).setCell ⟨eb, 0, none⟩ (errN 5))) (.cells #[] 217)
  cases c₀
  refine ⟨rfl, _, rfl, _, by simp [results, Tryz.results135], rfl, rfl, ?_, ?_, ?_⟩
  · exact (hB.cell (p := ⟨lb, 0, none⟩) (by simpa [World.setCell] using hl)).trans b1
  · exact (hB.cell (p := ⟨eb, 0, none⟩) (by simpa [World.setCell] using he)).trans b2
  · exact (((But.refl _ w).setCell (p := ⟨lb, 0, none⟩) (.inl (.inl rfl)) _).setCell (p := ⟨eb, 0, none⟩) (.inl (.inr rfl)) _).alloc _

theorem dec_rdG (b : List UInt8) : Vs.dec b = match rdG b with | some (l, []) => some l | _ => none := by
  cases b with
  | nil => rfl
  | cons n s =>
    rw [Vs.dec, rdG]
    cases Vs.decN n.toNat s with
    | none => rfl
    | some lt =>
      obtain ⟨l, t⟩ := lt
      cases t with
      | nil => by_cases h : Vs.chF l = 0 <;> simp [h]
      | cons x u => by_cases h : Vs.chF l = 0 <;> simp [h]
/-- The three boxes of Decode. -/
structure Dx (w W : World) : Prop where
  lt : w.heap.size + 2 < W.heap.size
  c0 : W.cell? ⟨w.heap.size, 0, none⟩ = some (.slice none 0 0)
  z0 : W.frozen? ⟨w.heap.size, 0, none⟩ = false
  c1 : W.cell? ⟨w.heap.size + 1, 0, none⟩ = some .nilIface
  z1 : W.frozen? ⟨w.heap.size + 1, 0, none⟩ = false
  below : Below w.heap.size w W
theorem Dx.but {w W W' : World} (h : Dx w W) (hb : But (· = w.heap.size + 2) W W') : Dx w W' := by
  have := h.lt
  have := hb.size
  exact ⟨by omega, (hb.cell (p := ⟨w.heap.size, 0, none⟩) (by simp; omega) (by show ¬ _ = _; simp)).trans h.c0, (hb.frozen (p := ⟨w.heap.size, 0, none⟩) (by simp; omega) (by show ¬ _ = _; simp)).trans h.z0,
    (hb.cell (p := ⟨w.heap.size + 1, 0, none⟩) (by simp; omega) (by show ¬ _ = _; simp)).trans h.c1, (hb.frozen (p := ⟨w.heap.size + 1, 0, none⟩) (by simp; omega) (by show ¬ _ = _; simp)).trans h.z1,
    h.below.trans (hb.under (by omega) (fun k hk => by show ¬ _ = _; omega))⟩

theorem dx_new (b : List UInt8) (p : Option Addr) (cp : Nat) (w : World) (hl : b.length ≤ cp) (hp : ByAt w p b) :
    Dx w (((w.alloc (.cells #[.slice none 0 0] 88)).alloc (.cells #[.nilIface] 25)).alloc (.cells #[.slice p b.length cp] 221)) ∧
    Rd (((w.alloc (.cells #[.slice none 0 0] 88)).alloc (.cells #[.nilIface] 25)).alloc (.cells #[.slice p b.length cp] 221)) (w.heap.size + 2) b := by
  have a0 : (w.alloc (.cells #[.slice none 0 0] 88)).cell? ⟨w.heap.size, 0, none⟩ = some (.slice none 0 0) := by simp
  have a1 : (w.alloc (.cells #[.slice none 0 0] 88)).frozen? ⟨w.heap.size, 0, none⟩ = false := by simp
  have hB1 := below_al (below_self w) (.cells #[.slice none 0 0] 88)
  have hs1 : (w.alloc (.cells #[.slice none 0 0] 88)).heap.size = w.heap.size + 1 := by simp
  generalize w.alloc (.cells #[.slice none 0 0] 88) = w1 at a0 a1 hB1 hs1
  have b0 : (w1.alloc (.cells #[.nilIface] 25)).cell? ⟨w1.heap.size, 0, none⟩ = some .nilIface := by simp
  have b1 : (w1.alloc (.cells #[.nilIface] 25)).frozen? ⟨w1.heap.size, 0, none⟩ = false := by simp
  have hB2 := below_al (below_self w1) (.cells #[.nilIface] 25)
  have hs2 : (w1.alloc (.cells #[.nilIface] 25)).heap.size = w1.heap.size + 1 := by simp
  generalize w1.alloc (.cells #[.nilIface] 25) = w2 at b0 b1 hB2 hs2
  have c0 : (w2.alloc (.cells #[.slice p b.length cp] 221)).cell? ⟨w2.heap.size, 0, none⟩ = some (.slice p b.length cp) := by simp
  have c1 : (w2.alloc (.cells #[.slice p b.length cp] 221)).frozen? ⟨w2.heap.size, 0, none⟩ = false := by simp
  have hB3 := below_al (below_self w2) (.cells #[.slice p b.length cp] 221)
  have hs3 : (w2.alloc (.cells #[.slice p b.length cp] 221)).heap.size = w2.heap.size + 1 := by simp
  generalize w2.alloc (.cells #[.slice p b.length cp] 221) = w3 at c0 c1 hB3 hs3
  have e2 : w2.heap.size = w.heap.size + 2 := by omega
  rw [e2] at c0 c1
  rw [hs1] at b0 b1
  have hB23 := below_via hB2 hB3
  have hB : Below w.heap.size w w3 := below_via hB1 hB23
  refine ⟨⟨by omega, (hB23.cell (p := ⟨w.heap.size, 0, none⟩) (by simp; omega)).trans a0, (hB23.frozen (p := ⟨w.heap.size, 0, none⟩) (by simp; omega)).trans a1, (hB3.cell (p := ⟨w.heap.size + 1, 0, none⟩) (by simp; omega)).trans b0, (hB3.frozen (p := ⟨w.heap.size + 1, 0, none⟩) (by simp; omega)).trans b1, hB⟩, ⟨by omega, c1, p, cp, c0, hl, fun h => ?_⟩⟩
  obtain ⟨bb, off, rfl, hlt, hC⟩ := hp h
  exact ⟨bb, off, rfl, by omega, hC.step hlt hB⟩

set_option maxRecDepth 30000 in
set_option maxHeartbeats 4000000 in
theorem decode_no (b : List UInt8) (p : Option Addr) (cp : Nat) (w : World) (hl : b.length ≤ cp) (hp : ByAt w p b) (hd : rdG b = none) :
    Calls Tryz.prog 106 #[.slice p b.length cp] w fun e w' => e = .returned (.tuple #[.slice none 0 0, errN 5]) ∧ Below w.heap.size w w' := by
  obtain ⟨hx, hr⟩ := dx_new b p cp w hl hp
  have K := changes_no hr hd
  have hmf : ∀ (fn : Fn) (first cap : Array Value) (w : World), (Instr.makeFunc fn first cap).run Tryz.prog w = .ok (.func fn first cap) w := fun _ _ _ _ => rfl
  go_enter_defers Tryz.func106, Tryz.ntmps106
  go_wp2_with (go_at_call 136; refine K.mono ?_; clear K; rintro e w2 ⟨rfl, hb2⟩; have hx2 := hx.but hb2)
  refine leaves_cons (f := 135) (args := #[.pointer (some ⟨w.heap.size, 0, none⟩), .pointer (some ⟨w.heap.size + 1, 0, none⟩)]) (by simp) (by simp [go_sem]) ?_
  refine (catch_halt w.heap.size (w.heap.size + 1) _ _ _ hx2.c0 hx2.c1 hx2.z0 hx2.z1 (by omega)).mono ?_
  rintro e u' w3 ⟨rfl, rfl, c0, c1, hb3⟩
  simp [Leaves, settle, results, Tryz.results106, go_sem, c0, c1]
  exact hx2.below.trans (hb3.under (by have := hx2.lt; omega) (fun k hk => by omega))

/-- What changes told has been laid. -/
structure Dy (w W : World) (v : Value) : Prop where
  lt : w.heap.size + 2 < W.heap.size
  c0 : W.cell? ⟨w.heap.size, 0, none⟩ = some v
  z0 : W.frozen? ⟨w.heap.size, 0, none⟩ = false
  c1 : W.cell? ⟨w.heap.size + 1, 0, none⟩ = some .nilIface
  z1 : W.frozen? ⟨w.heap.size + 1, 0, none⟩ = false
  below : Below w.heap.size w W
theorem Dx.set {w W : World} (h : Dx w W) (v : Value) : Dy w (W.setCell ⟨w.heap.size, 0, none⟩ v) v := by
  have := h.lt
  exact ⟨by simpa [World.setCell] using h.lt, World.cell?_setCell_same _ _ _ h.c0, by simpa using h.z0, by rw [World.cell?_setCell_other _ _ _ _ (by intro e; have := congrArg Addr.block e; simp at this)]; exact h.c1, by simpa using h.z1, h.below.setCell (by simp) _⟩

set_option maxRecDepth 30000 in
set_option maxHeartbeats 4000000 in
theorem decode_more (b : List UInt8) (l : List Vs.Chg) (x : UInt8) (t : List UInt8) (p : Option Addr) (cp : Nat) (w : World) (hl : b.length ≤ cp) (hp : ByAt w p b) (hd : rdG b = some (l, x :: t)) :
    Calls Tryz.prog 106 #[.slice p b.length cp] w fun e w' => e = .returned (.tuple #[.slice none 0 0, errN 5]) ∧ Below w.heap.size w w' := by
  obtain ⟨hx, hr⟩ := dx_new b p cp w hl hp
  have K := changes_ok hr hd
  have hmf : ∀ (fn : Fn) (first cap : Array Value) (w : World), (Instr.makeFunc fn first cap).run Tryz.prog w = .ok (.func fn first cap) w := fun _ _ _ _ => rfl
  go_enter_defers Tryz.func106, Tryz.ntmps106
  go_wp2_with (first
    | (go_at_call 137; refine (end_no hq3 (by simp)).mono ?_; rintro e w4 ⟨rfl, hw4⟩; subst hw4)
    | (go_at_call 136; refine K.mono ?_; clear K; rintro e w2 ⟨pl, cl, rfl, hown, hr2, hb2⟩; have hx2 := hx.but hb2; have d0 := hx2.c0; have d1 := hx2.z0; have d2 := hx2.c1; have d3 := hx2.z1; have hy := hx2.set (.slice pl l.length cl); obtain ⟨-, -, qr, cr, hq, -, -⟩ := hr2; have hq3 : (w2.setCell ⟨w.heap.size, 0, none⟩ (.slice pl l.length cl)).cell? ⟨w.heap.size + 2, 0, none⟩ = some (.slice qr (x :: t).length cr) := (by rw [World.cell?_setCell_other _ _ _ _ (by intro e; have := congrArg Addr.block e; simp at this)]; exact hq)))
  refine leaves_cons (f := 135) (args := #[.pointer (some ⟨w.heap.size, 0, none⟩), .pointer (some ⟨w.heap.size + 1, 0, none⟩)]) (by simp) (by simp [go_sem]) ?_
  refine (catch_halt w.heap.size (w.heap.size + 1) _ _ _ hy.c0 hy.c1 hy.z0 hy.z1 (by omega)).mono ?_
  rintro e u' w3 ⟨rfl, rfl, c0, c1, hb3⟩
  simp [Leaves, settle, results, Tryz.results106, go_sem, c0, c1]
  exact hy.below.trans (hb3.under (by have := hy.lt; omega) (fun k hk => by omega))

set_option maxRecDepth 30000 in
set_option maxHeartbeats 4000000 in
theorem decode_ok (b : List UInt8) (l : List Vs.Chg) (p : Option Addr) (cp : Nat) (w : World) (hl : b.length ≤ cp) (hp : ByAt w p b) (hd : rdG b = some (l, [])) :
    Calls Tryz.prog 106 #[.slice p b.length cp] w fun e w' => ∃ q cq, e = .returned (.tuple #[.slice q l.length cq, .nilIface]) ∧ w'.ownsRow w.heap.size 50 3 (.slice q l.length cq) l.length (chV l) ∧ Below w.heap.size w w' := by
  obtain ⟨hx, hr⟩ := dx_new b p cp w hl hp
  have K := changes_ok hr hd
  have hmf : ∀ (fn : Fn) (first cap : Array Value) (w : World), (Instr.makeFunc fn first cap).run Tryz.prog w = .ok (.func fn first cap) w := fun _ _ _ _ => rfl
  go_enter_defers Tryz.func106, Tryz.ntmps106
  go_wp2_with (first
    | (go_at_call 137; refine (end_ok hq3).mono ?_; rintro e w4 ⟨rfl, hw4⟩; subst hw4)
    | (go_at_call 136; refine K.mono ?_; clear K; rintro e w2 ⟨pl, cl, rfl, hown, hr2, hb2⟩; have hx2 := hx.but hb2; have d0 := hx2.c0; have d1 := hx2.z0; have d2 := hx2.c1; have d3 := hx2.z1; have hy := hx2.set (.slice pl l.length cl); have y0 := hy.c0; have y1 := hy.z0; have y2 := hy.c1; have y3 := hy.z1; obtain ⟨-, -, qr, cr, hq, -, -⟩ := hr2; have hq3 : (w2.setCell ⟨w.heap.size, 0, none⟩ (.slice pl l.length cl)).cell? ⟨w.heap.size + 2, 0, none⟩ = some (.slice qr 0 cr) := (by rw [World.cell?_setCell_other _ _ _ _ (by intro e; have := congrArg Addr.block e; simp at this)]; exact hq)))
  have c0 : (((w2.setCell ⟨w.heap.size, 0, none⟩ (.slice pl l.length cl)).setCell ⟨w.heap.size, 0, none⟩ (.slice pl l.length cl)).setCell ⟨w.heap.size + 1, 0, none⟩ .nilIface).cell? ⟨w.heap.size, 0, none⟩ = some (.slice pl l.length cl) := by
    rw [World.cell?_setCell_other _ _ _ _ (by intro e; have := congrArg Addr.block e; simp at this)]; exact World.cell?_setCell_same _ _ _ y0
  have c1 : (((w2.setCell ⟨w.heap.size, 0, none⟩ (.slice pl l.length cl)).setCell ⟨w.heap.size, 0, none⟩ (.slice pl l.length cl)).setCell ⟨w.heap.size + 1, 0, none⟩ .nilIface).cell? ⟨w.heap.size + 1, 0, none⟩ = some .nilIface :=
    World.cell?_setCell_same _ _ _ (by rw [World.cell?_setCell_other _ _ _ _ (by intro e; have := congrArg Addr.block e; simp at this)]; exact y2)
  have hown3 := ownsRow_setCell_below (ownsRow_setCell_below (ownsRow_setCell_below hown (a := ⟨w.heap.size, 0, none⟩) (by simp; omega) (.slice pl l.length cl)) (a := ⟨w.heap.size, 0, none⟩) (by simp; omega) (.slice pl l.length cl)) (a := ⟨w.heap.size + 1, 0, none⟩) (by simp) .nilIface
  have hb3 := (hy.below.setCell (p := ⟨w.heap.size, 0, none⟩) (by simp) (.slice pl l.length cl)).setCell (p := ⟨w.heap.size + 1, 0, none⟩) (by simp) .nilIface
  refine leaves_cons (f := 135) (args := #[.pointer (some ⟨w.heap.size, 0, none⟩), .pointer (some ⟨w.heap.size + 1, 0, none⟩)]) (by simp) (by simp [go_sem]) ?_
  refine (catch_idle ⟨w.heap.size, 0, none⟩ ⟨w.heap.size + 1, 0, none⟩ _).mono ?_
  rintro e u' w3 ⟨rfl, rfl, rfl⟩
  exact ⟨.tuple #[.slice pl l.length cl, .nilIface], by simp [results, Tryz.results106, go_sem, c0, c1], pl, cl, rfl, ownMono (by simp; omega) hown3, hb3⟩
theorem decode (b : List UInt8) (p : Option Addr) (cp : Nat) (w : World) (hl : b.length ≤ cp) (hp : ByAt w p b) :
    Calls Tryz.prog 106 #[.slice p b.length cp] w fun e w' => ∃ (q : Option Addr) (cq : Nat), e = .returned (.tuple #[.slice q (Vs.deS b).length cq, ev (Vs.deF b)]) ∧ ChAt w' q (Vs.deS b) ∧ Below w.heap.size w w' := by
  have hD := dec_rdG b
  cases hd : rdG b with
  | none =>
    rw [hd] at hD
    rw [show Vs.deS b = [] from by unfold Vs.deS; rw [hD]; rfl, show Vs.deF b = 5 from by unfold Vs.deF; rw [hD]; rfl]
    refine (decode_no b p cp w hl hp hd).mono ?_
    rintro e w' ⟨rfl, hb⟩
    exact ⟨none, 0, rfl, ChAt.nil _ _, hb⟩
  | some lt =>
    obtain ⟨l, t⟩ := lt
    rw [hd] at hD
    cases t with
    | nil =>
      rw [show Vs.deS b = l from by unfold Vs.deS; rw [hD]; rfl, show Vs.deF b = 0 from by unfold Vs.deF; rw [hD]; rfl]
      refine (decode_ok b l p cp w hl hp hd).mono ?_
      rintro e w' ⟨q, cq, rfl, ho, hb⟩
      exact ⟨q, cq, rfl, (chAt_own ho).2, hb⟩
    | cons x t =>
      rw [show Vs.deS b = [] from by unfold Vs.deS; rw [hD]; rfl, show Vs.deF b = 5 from by unfold Vs.deF; rw [hD]; rfl]
      refine (decode_more b l x t p cp w hl hp hd).mono ?_
      rintro e w' ⟨rfl, hb⟩
      exact ⟨none, 0, rfl, ChAt.nil _ _, hb⟩
end Go.Proofs.YteipfdjpndhgkaaGreatDoor
