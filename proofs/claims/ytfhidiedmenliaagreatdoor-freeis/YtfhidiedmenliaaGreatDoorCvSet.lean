/- The contract of cover.Set. -/
import Derived.Test.YtfhidiedmenliaaGreatDoorCvIter
import Derived.Maps.AppendAt
namespace Go.Proofs.YtfhidiedmenliaaGreatDoor
open Go.RowKit Go.Shelf

attribute [local go_sem] Oper.semAt_some

theorem blocks (lo hi : Int) (w : World) : Calls Tryz.prog 47 #[pfx lo hi] w fun e w' => e = .returned (.func (.func 61) #[] #[.pointer (some ⟨w.heap.size, 0, none⟩)]) ∧ w' = w.alloc (.cells #[.int .i64 lo, .int .i64 hi] 53) := by
  go_enter Tryz.func47, Tryz.ntmps47
  go_wp2
  go_ret
  exact ⟨rfl, rfl⟩

/-- A mark among the deferred calls. -/
def mkD (D : Nat) : Deferred := { target := .collected D, args := #[] }
/-- The marks' blocks lie, each by itself, and none of them below n. -/
def Marks (n : Nat) (Ds : List Nat) (W : World) : Prop := Ds.Pairwise (· ≠ ·) ∧ ∀ D ∈ Ds, n ≤ D ∧ W.heap[D]? = some (.deferred (some []))
theorem Marks.lt {n : Nat} {Ds : List Nat} {W : World} (h : Marks n Ds W) : ∀ D ∈ Ds, D < W.heap.size := fun D hD => (Array.getElem?_eq_some_iff.1 (h.2 D hD).2).1
/-- Cells are kept. -/
def Kc (W W' : World) : Prop := (∀ p v, W.cell? p = some v → W'.cell? p = some v) ∧ W.heap.size ≤ W'.heap.size
theorem Kc.refl (W : World) : Kc W W := ⟨fun _ _ h => h, Nat.le_refl _⟩
theorem Kc.trans {X Y Z : World} (h : Kc X Y) (k : Kc Y Z) : Kc X Z := ⟨fun p v e => k.1 p v (h.1 p v e), Nat.le_trans h.2 k.2⟩
theorem SpAt.kc {W W' : World} {p : Option Addr} {l : List Bur.Sp} (h : SpAt W p l) (k : Kc W W') : SpAt W' p l := by
  intro hl
  obtain ⟨b, off, rfl, hlt, hc⟩ := h hl
  exact ⟨b, off, rfl, Nat.lt_of_lt_of_le hlt k.2, fun i hi => ⟨k.1 _ _ (hc i hi).1, k.1 _ _ (hc i hi).2⟩⟩
theorem kc_put {W : World} {D : Nat} (h : W.heap[D]? = some (.deferred (some []))) (o : Obj) : Kc W (W.putObj D o) :=
  ⟨fun _ _ e => cell_kept e (grownBy_putObj' W D o) (fun r e' => by cases e'; exact ⟨_, h, rfl⟩), (grownBy_putObj' W D o).size⟩
/-- The marks are taken off, one by one. -/
theorem leaves_marks {F : Fence} {n : Nat} {P : Program} {fn : Func} {tmps : Array Value} {R : Ending → World → Prop} {m : Nat} : ∀ (Ds : List Nat) (W : World), m ≤ W.heap.size → Marks m Ds W →
    (∀ W', Kc W W' → Below m W W' → LeavesInM F n P fn tmps R [] .returning W') → LeavesInM F n P fn tmps R (Ds.map mkD) .returning W
  | [], W, _, _, h => h W (Kc.refl W) (Below.refl _ _)
  | D :: Ds, W, hm, hM, h => by
    have hD := hM.2 D (by simp)
    have hp := List.pairwise_cons.1 hM.1
    refine ⟨by simp, .inl ⟨D, _, rfl, run_takeDeferred hD.2, ?_⟩⟩
    refine leaves_marks Ds _ (by have := (kc_put hD.2 (.deferred none)).2; omega) ⟨hp.2, fun E hE => ⟨(hM.2 E (by simp [hE])).1, ?_⟩⟩ (fun W' k b => h W' ((kc_put hD.2 _).trans k) (Below.trans ((Below.refl m W).grown (grownBy_putObj' W D _) hm (fun k e => by cases e; exact hD.1)) b))
    have hne := hp.1 E hE
    exact (World.putObj_heap_other (fun e => hne e.symm)).trans (hM.2 E (by simp [hE])).2

/-- How things lie between two rounds: the results' boxes, the list that grows in its box, the marks. -/
structure St (w : World) (Ba : Nat) (W : World) (Ds : List Nat) (done : List Bur.Sp) (v : Value) : Prop where
  b2 : Boxed W w.heap.size 24 (.slice none 0 0)
  b3 : Boxed W (w.heap.size + 1) 31 .nilIface
  ba : Boxed W Ba 24 v
  row : W.ownsRow w.heap.size 23 2 v done.length (spV done)
  ms : Marks w.heap.size Ds W
  lt : w.heap.size + 2 ≤ Ba
  be : Below w.heap.size w W
theorem St.step {w W W' : World} {Ba : Nat} {Ds : List Nat} {done : List Bur.Sp} {v : Value} (h : St w Ba W Ds done v) (hb : Below W.heap.size W W') : St w Ba W' Ds done v where
  b2 := (hb.block _ h.b2.lt).trans h.b2
  b3 := (hb.block _ h.b3.lt).trans h.b3
  ba := (hb.block _ h.ba.lt).trans h.ba
  row := own_below h.row hb
  ms := ⟨h.ms.1, fun D hD => ⟨(h.ms.2 D hD).1, (hb.block D (h.ms.lt D hD)).trans (h.ms.2 D hD).2⟩⟩
  lt := h.lt
  be := below_via h.be hb
theorem marks_own {β : Type} {n B : Nat} {Ds : List Nat} (hD : ∀ D ∈ Ds, D < B) : OwnFrom B (fun (_ : β) W => Marks n Ds W) := fun _ _ _ _ hs hg hr =>
  ⟨hs.1, fun D hD' => ⟨(hs.2 D hD').1, (hg.block D (hs.lt D hD') (fun e => by have := (hr D e.symm).1; have := hD D hD'; omega)).trans (hs.2 D hD').2⟩⟩
/-- Between two rounds. -/
def Iv (w : World) (Ba Bc : Nat) (lo hi : Int) (Ds : List Nat) (done : List Bur.Sp) (pre : List Bur.Sp) (W : World) : Prop :=
  ∃ v, St w Ba W Ds (done ++ pre) v ∧ (done ++ pre).length ≤ 200 ∧ Pair W Bc 53 lo hi
/-- A round has said that there are too many. -/
def Iz (w : World) (Ds : List Nat) (done : List Bur.Sp) (c : Code) (pre : List Bur.Sp) (W : World) : Prop :=
  c = .ret ∧ 200 < (done ++ pre).length ∧ Boxed W w.heap.size 24 (.slice none 0 0) ∧ Boxed W (w.heap.size + 1) 31 (errN 3) ∧ Marks w.heap.size Ds W ∧ Below w.heap.size w W
theorem iv_own {w : World} {Ba Bc B : Nat} {lo hi : Int} {Ds : List Nat} {done : List Bur.Sp} (hD : ∀ D ∈ Ds, D < B) (hB : w.heap.size ≤ B) : OwnFrom B (Iv w Ba Bc lo hi Ds done) := by
  rintro pre X Y row ⟨v, h, hl, hp⟩ hg hr
  have hr' : ∀ r, row = some r → ∃ o : Obj, X.heap[r]? = some o ∧ o.isCells = false := fun r e => (hr r e).2
  refine ⟨v, ⟨boxed_own _ _ (fun (_ : Unit) => _) () X Y row h.b2 hg hr', boxed_own _ _ (fun (_ : Unit) => _) () X Y row h.b3 hg hr', boxed_own _ _ (fun (_ : Unit) => _) () X Y row h.ba hg hr', ?_, marks_own hD () X Y row h.ms hg hr, h.lt, ownFrom_below (β := Unit) (Nat.le_refl _) hB () X Y row h.be hg hr⟩, hl, pair_own (β := Unit) _ _ _ _ () X Y row hp hg hr'⟩
  refine h.row.kept hg ?_
  rcases h.row.2 with ⟨rfl, _⟩ | ⟨g, cap, cur, rfl, _, hgb, _⟩
  · exact .inl rfl
  · refine .inr fun e' => ?_
    obtain ⟨o, ho, hc⟩ := hr' g (by simpa [Value.ownBlock] using e'.symm)
    rw [hgb] at ho; cases ho; cases hc
theorem iz_own {w : World} {B : Nat} {Ds : List Nat} {done : List Bur.Sp} (hD : ∀ D ∈ Ds, D < B) (hB : w.heap.size ≤ B) (c : Code) : OwnFrom B (Iz w Ds done c) := by
  rintro pre X Y row ⟨h1, h2, h3, h4, h5, h6⟩ hg hr
  have hr' : ∀ r, row = some r → ∃ o : Obj, X.heap[r]? = some o ∧ o.isCells = false := fun r e => (hr r e).2
  exact ⟨h1, h2, boxed_own _ _ (fun (_ : Unit) => _) () X Y row h3 hg hr', boxed_own _ _ (fun (_ : Unit) => _) () X Y row h4 hg hr', marks_own hD () X Y row h5 hg hr, ownFrom_below (β := Unit) (Nat.le_refl _) hB () X Y row h6 hg hr⟩
/-- The return: what the results' boxes hold, the marks taken off. -/
theorem set_ret {R : Ending → World → Prop} {m B2 B3 : Nat} {v2 v3 : Value} {tmps : Array Value} {Ds : List Nat} {W : World} (h2 : tmps[2]?.getD undef = .pointer (some ⟨B2, 0, none⟩)) (h3 : tmps[3]?.getD undef = .pointer (some ⟨B3, 0, none⟩)) (hm : m ≤ W.heap.size) (hM : Marks m Ds W) (b2 : W.cell? ⟨B2, 0, none⟩ = some v2) (b3 : W.cell? ⟨B3, 0, none⟩ = some v3)
    (hR : ∀ W', Kc W W' → Below m W W' → R (.returned (.tuple #[v2, v3])) W') : bodyPostM Fence.wide 9 Tryz.prog Tryz.f29 R .ret ⟨tmps, Ds.map mkD⟩ W := by
  show LeavesInM Fence.wide 9 Tryz.prog Tryz.f29 tmps R (Ds.map mkD) .returning W
  refine leaves_marks Ds W hm hM (fun W' k b => ?_)
  have c2 := k.1 _ _ b2
  have c3 := k.1 _ _ b3
  exact ⟨.tuple #[v2, v3], by simp [results, Tryz.results29, go_sem, h2, h3, c2, c3], hR W' k b⟩

theorem two_newP {W : World} {x y : Int} {t : Nat} {N : Nat} (hN : N = W.heap.size) : ∀ (j : Nat) (u : Value), ([.int .i64 x, .int .i64 y] : List Value)[j]? = some u → (W.alloc (.cells #[.int .i64 x, .int .i64 y] t)).cell? ((⟨N, 0, none⟩ : Addr).add j) = some u := by
  subst hN
  intro j u hj
  match j, hj with
  | 0, hj => simp at hj; subst hj; simp [Addr.add]
  | 1, hj => simp at hj; subst hj; simp [Addr.add]
theorem two_oneP {x y : Int} : ∀ u ∈ ([.int .i64 x, .int .i64 y] : List Value), u.oneCell' = true := by
  intro u hu; simp at hu; rcases hu with rfl | rfl <;> rfl
theorem info_pfx : (Tryz.prog.info? 23).map (fun i => (i.zero, i.size, i.bytes)) = some (some (.agg #[.int .i64 0, .int .i64 0]), 2, 16) := by kernel_rfl
theorem Marks.set {n : Nat} {Ds : List Nat} {W : World} {B t : Nat} {v : Value} (h : Marks n Ds W) (b : Boxed W B t v) (u : Value) : Marks n Ds (W.setCell ⟨B, 0, none⟩ u) :=
  ⟨h.1, fun D hD => ⟨(h.2 D hD).1, ((grownBy_setCell' W B u).block D (h.lt D hD) (fun e => by have := (h.2 D hD).2; rw [Option.some.inj e, show W.heap[B]? = _ from b] at this; cases this)).trans (h.2 D hD).2⟩⟩
/-- What a row of the call's own holds can be read. -/
theorem spAt_ownP {w : World} {B n cap : Nat} {p : Option Addr} {l : List Bur.Sp} (h : w.ownsRow B 23 2 (.slice p n cap) l.length (spV l)) : n = l.length ∧ SpAt w p l := by
  rcases h.2 with ⟨h0, h1⟩ | ⟨g, cap', cur, h0, _, hg, _, _, _, _⟩
  · cases h0; exact ⟨h1.symm, fun hp => by omega⟩
  · cases h0
    refine ⟨rfl, fun _ => ⟨g, 0, rfl, (Array.getElem?_eq_some_iff.1 hg).1, fun i hi => ?_⟩⟩
    have := spV_at l i hi
    rw [Nat.zero_add, h.cellAt (i * 2) (by omega), h.cellAt (i * 2 + 1) (by omega)]
    exact this

/-- Behind 'all = append(all, p)'. -/
theorem St.appended {w W w1 : World} {Ba Bc : Nat} {a z : Int} {Ds : List Nat} {done : List Bur.Sp} {x : Bur.Sp} {v v' : Value} {tmp : Obj} (h : St w Ba W Ds done v) (hp : Pair W Bc 53 a z) (hBc : Ba ≠ Bc)
    (hown : w1.ownsRow w.heap.size 23 2 v' (done.length + 1) (spV done ++ [.int .i64 x.1, .int .i64 x.2])) (hgrow : (W.alloc tmp).grownBy w1 v.ownBlock) :
    Boxed w1 Ba 24 v ∧ St w Ba (w1.setCell ⟨Ba, 0, none⟩ v') Ds (done ++ [x]) v' ∧ Pair (w1.setCell ⟨Ba, 0, none⟩ v') Bc 53 a z ∧ KeepsOthers W (w1.setCell ⟨Ba, 0, none⟩ v') ∧ Below w.heap.size W (w1.setCell ⟨Ba, 0, none⟩ v') := by
  have hlt := h.lt
  obtain ⟨hv1, hv2, hr2, hk2, hb2⟩ := h.ba.appended (by decide) h.row h.be.size (by omega) hown hgrow
  have hg2 := grownBy_setCell' w1 Ba v'
  have hm1 : Marks w.heap.size Ds w1 := ⟨h.ms.1, fun D hD => ⟨(h.ms.2 D hD).1, (hgrow.block D (by have := h.ms.lt D hD; simp; omega) (fun e => by
    rcases h.row.2 with ⟨rfl, _⟩ | ⟨g, cap, cur, rfl, _, hgb, _⟩
    · simp [Value.ownBlock] at e
    · obtain rfl : D = g := by simpa [Value.ownBlock] using e
      have := (h.ms.2 D hD).2
      rw [hgb] at this; cases this)).trans ((World.grownBy_alloc W tmp none).block D (h.ms.lt D hD) (by simp) |>.trans (h.ms.2 D hD).2)⟩⟩
  refine ⟨hv1, ⟨((h.b2.alloc tmp).kept hgrow (h.b2.not_row (by decide) h.row)).other (by omega) _, ((h.b3.alloc tmp).kept hgrow (h.b3.not_row (by decide) h.row)).other (by omega) _, hv2, ?_, hm1.set hv1 v', h.lt, h.be.trans hb2⟩, ((hp.alloc tmp).kept hgrow (hp.not_row (by decide) h.row)).kept hg2 (fun e => hBc (Option.some.inj e).symm), hk2, hb2⟩
  rw [spV_app, List.length_append]
  exact hr2

set_option maxRecDepth 100000 in
set_option maxHeartbeats 8000000 in
theorem coverSet (p : Option Addr) (cap : Nat) (l : List Bur.Sp) (w : World) (hl : l.length ≤ 9223372036854775807) (hs : SpAt w p l) (hT : Tab w) :
    Calls Tryz.prog 29 #[.slice p l.length cap] w fun e w' => ∃ (q : Option Addr) (cp : Nat), e = .returned (.tuple #[.slice q (Bur.cvS l).length cp, ev (Bur.cvF l)]) ∧ SpAt w' q (Bur.cvS l) ∧ Below w.heap.size w w' := by
  refine (callsIn_wide (n := 9)).1 ?_
  refine callsIn_of_wp_marks Tryz.func29 rfl trivial ?_ rfl
  simp only [Tryz.ntmps29, List.size_toArray, List.length_cons, List.length_nil, Nat.reduceAdd, Nat.reduceSub, Array.replicate_succ, Array.replicate_zero, List.push_toArray, List.append_toArray, List.nil_append, List.cons_append]
  refine wpIn_wide.2 ?_
  go_wp2_with fail
  have hb0 : Below w.heap.size w ((w.alloc (.cells #[.slice none 0 0] 24)).alloc (.cells #[.nilIface] 31)) := below_al (below_al (below_self _) _) _
  have b2 := (Boxed.new w 24 (.slice none 0 0)).alloc (.cells #[.nilIface] 31)
  have b3 := Boxed.new (w.alloc (.cells #[.slice none 0 0] 24)) 31 .nilIface
  rw [World.size_alloc] at b3
  obtain ⟨W0, hW0⟩ : ∃ W0, ((w.alloc (.cells #[.slice none 0 0] 24)).alloc (.cells #[.nilIface] 31)) = W0 := ⟨_, rfl⟩
  have hsz0 : W0.heap.size = w.heap.size + 2 := by rw [← hW0]; simp
  rw [hW0] at hb0 b2 b3 ⊢
  clear hW0
  refine (check p cap l W0 hl (hs.step hb0)).mono ?_
  rintro e w1 ⟨rfl, hb1⟩
  have b2' : Boxed w1 w.heap.size 24 (.slice none 0 0) := (hb1.block _ b2.lt).trans b2
  have b3' : Boxed w1 (w.heap.size + 1) 31 .nilIface := (hb1.block _ b3.lt).trans b3
  have hbw := below_via hb0 hb1
  have hsz1 := hb1.size
  clear b2 b3 hb0 hb1
  by_cases hf : Bur.setF l = 0
  · have hev : Hid (ev (Bur.setF l) = .nilIface) := by show _ = _; rw [hf]; rfl
    have hF : Hid (Bur.cvF l = if 200 < (Bur.cvs l).length then 3 else 0) := if_pos hf
    have ok := Bur.setF_ok hf
    have l64 := ok.1
    have iA := ok.2.2
    rw [hev.out]
    have st0 : St w w1.heap.size (w1.alloc (.cells #[.slice none 0 0] 24)) [] [] (.slice none 0 0) :=
      ⟨b2'.alloc _, b3'.alloc _, Boxed.new w1 24 _, World.ownsRow_nil _ _ _ _, ⟨List.Pairwise.nil, fun _ h => by cases h⟩, by omega, below_al hbw _⟩
    clear hev hf ok b2' b3' hbw
    go_wp2_with fail
    refine wp_loop (fun a' W => ∃ (k : Nat) (Ds : List Nat) (done : List Bur.Sp) (v u7 u8 u17 u18 u19 u20 u21 u22 u23 u24 u25 u26 u27 u28 u29 u30 u31 : Value),
      a' = { tmps := #[.slice p l.length cap, undef, .pointer (some ⟨w.heap.size, 0, none⟩), .pointer (some ⟨w.heap.size + 1, 0, none⟩), .nilIface, .pointer (some ⟨w1.heap.size, 0, none⟩), undef, u7, u8, .slice p l.length cap, .nilIface, .nilIface, .bool false, undef, .slice p l.length cap, .int .i64 l.length, .int .i64 k, u17, u18, u19, u20, u21, u22, u23, u24, u25, u26, u27, u28, u29, u30, u31, undef], defers := Ds.map mkD }
      ∧ k ≤ l.length ∧ done.length ≤ 200 ∧ Hid (Bur.cvs l = done ++ Bur.cvs (l.drop k)) ∧ St w w1.heap.size W Ds done v)
      (fun a' _ => l.length - (intOf (a'.tmps.getD 16 undef)).toNat) ⟨0, [], [], .slice none 0 0, undef, undef, undef, undef, undef, undef, undef, undef, undef, undef, undef, undef, undef, undef, undef, undef, undef, rfl, by omega, by simp, rfl, st0⟩ ?_
    rintro _ W ⟨k, Ds, done, v, u7, u8, u17, u18, u19, u20, u21, u22, u23, u24, u25, u26, u27, u28, u29, u30, u31, rfl, hk, hd, R, st⟩
    clear st0
    by_cases hlt : k < l.length
    · have hlt' : (k : Int) < (l.length : Int) := by omega
      obtain ⟨b, off, rfl, hbl, hc⟩ := (hs.step st.be) (by omega)
      have c0 : W.cell? ⟨b, off + k * 2, none⟩ = some (.int .i64 (lo l k)) := (hc k hlt).1
      have c1 : W.cell? ⟨b, off + k * 2 + 1, none⟩ = some (.int .i64 (hi l k)) := (hc k hlt).2
      clear hc
      have ok := iA (lo l k, hi l k) (by
        have : (lo l k, hi l k) ∈ l.drop k := by rw [drop_sp hlt]; simp
        exact List.mem_of_mem_drop this)
      simp only at ok
      go_wp2_with fail
      refine (blocks (lo l k) (hi l k) _).mono ?_
      rintro e w2 ⟨rfl, rfl⟩
      have stl : St w w1.heap.size ((W.alloc (.cells #[.int .i64 (lo l k), .int .i64 (hi l k)] 53)).alloc (.cells #[.int .i64 (lo l k), .int .i64 (hi l k)] 53)) Ds done v := st.step (below_al (below_al (below_self _) _) _)
      have pr := Pair.new (W.alloc (.cells #[.int .i64 (lo l k), .int .i64 (hi l k)] 53)) 53 (lo l k) (hi l k)
      rw [World.size_alloc] at pr ⊢
      have hBc : w1.heap.size ≠ W.heap.size + 1 := by have := st.ba.lt; omega
      obtain ⟨Wl, hWl⟩ : ∃ Wl, ((W.alloc (.cells #[.int .i64 (lo l k), .int .i64 (hi l k)] 53)).alloc (.cells #[.int .i64 (lo l k), .int .i64 (hi l k)] 53)) = Wl := ⟨_, rfl⟩
      rw [hWl] at stl pr ⊢
      clear hWl st c0 c1
      obtain ⟨Bc, hBc'⟩ : ∃ Bc, W.heap.size + 1 = Bc := ⟨_, rfl⟩
      rw [hBc'] at pr hBc ⊢
      clear hBc'
      have hTl := hT.step stl.be hT.lt
      have hDl := stl.ms.lt
      have hwl := stl.be.size
      obtain ⟨a, ha⟩ : ∃ a, lo l k = a := ⟨_, rfl⟩
      obtain ⟨z, hz⟩ : ∃ z, hi l k = z := ⟨_, rfl⟩
      have R2 : Hid (Bur.cvs l = done ++ (Bur.cov a z ++ Bur.cvs (l.drop (k + 1)))) := by show _ = _; rw [R.out, drop_sp hlt, Bur.cvs_cons, ha, hz]
      rw [ha, hz] at ok pr ⊢
      clear ha hz R hs
      have seq : SeqStopsK Fence.wide (9 - 1) Tryz.prog 61 #[.pointer (some ⟨Bc, 0, none⟩)] encP (Kp w.heap.size Bc a z) (fun ys => ys = Bur.cov a z) (fun pre => pre <+: Bur.cov a z) (Bur.cov a z).length Wl := fun lp J Jx W' hW' _ _ hY h0 =>
        blocks1 8 lp Bc w.heap.size hT.lt a z ok.1 ok.2.1 ok.2.2 J Jx hY W' (pr.step hW' pr.lt) (hTl.step hW' hTl.lt) h0
      go_wp2_with fail
      refine wpIn_wide.1 (wpIn_rangeFunc_ownH (F := Fence.wide) (n := 9) rfl (by decide) (gf := 61) (lb := #[.pointer (some ⟨Bc, 0, none⟩)]) rfl trivial (enters_of Tryz.func61 (by kernel_rfl) rfl) seq
        (fun h k => Kp.t h k) (Kp.b hwl) (Below.refl _ _) (fun _ => rfl) (Iv w w1.heap.size Bc a z Ds done) (Iz w Ds done) (iv_own hDl hwl) (iz_own hDl hwl) ⟨v, by simpa using stl, by simpa using hd, pr⟩
        (fun x a' W' => ∃ Bx, W'.cell? ⟨Bx, 0, none⟩ = some (.int .i64 x.1) ∧ W'.cell? ⟨Bx, 1, none⟩ = some (.int .i64 x.2) ∧ a' = { tmps := #[.slice (some ⟨b, off, none⟩) l.length cap, undef, .pointer (some ⟨w.heap.size, 0, none⟩), .pointer (some ⟨w.heap.size + 1, 0, none⟩), .nilIface, .pointer (some ⟨w1.heap.size, 0, none⟩), undef, .pointer (some ⟨W.heap.size, 0, none⟩), .pointer (some ⟨Bx, 0, none⟩), .slice (some ⟨b, off, none⟩) l.length cap, .nilIface, .nilIface, .bool false, undef, .slice (some ⟨b, off, none⟩) l.length cap, .int .i64 l.length, .int .i64 k, .bool true, .pointer (some ⟨b, off + k * 2, none⟩), .agg #[.int .i64 a, .int .i64 z], .agg #[.int .i64 a, .int .i64 z], .func (.func 61) #[] #[.pointer (some ⟨Bc, 0, none⟩)], .agg #[.int .i64 x.1, .int .i64 x.2], u23, u24, u25, u26, u27, u28, u29, u30, u31, undef], defers := [] })
        (fun x a' _ X Y row hs hg hr => by obtain ⟨Bx, h1, h2, h3⟩ := hs; exact ⟨Bx, cell_kept h1 hg (fun r e => (hr r e).2), cell_kept h2 hg (fun r e => (hr r e).2), h3⟩)
        ?assign ?body ?done ?stop)
      case assign =>
        rintro lp pre x W' K ⟨v', st', hl', hp'⟩ hK
        simp only [encP]
        gi_wp2
        exact hK _ _ ((KeepsOthers.alloc _ _).from _) ⟨fun p => p.alloc _, (Below.refl _ _).alloc st'.be.size _⟩ ⟨v', st'.step (below_al (below_self _) _), hl', hp'.alloc _⟩ ⟨W'.heap.size, by simp, by simp, rfl⟩
      case body =>
        rintro lp pre x a' W' hlp ⟨r, hr⟩ ⟨v', st', hl', hp'⟩ ⟨Bx, x0, x1, rfl⟩ hlen
        obtain ⟨i0, hin, hz0, hz1, hz2⟩ := info_parts info_pfx
        obtain ⟨n, hn⟩ : ∃ n, Hid ((done ++ pre).length = n) := ⟨_, rfl⟩
        obtain ⟨pv, cv, rfl⟩ : ∃ pv cv, v' = .slice pv n cv := by
          rw [← hn.out]
          rcases st'.row.2 with ⟨rfl, h⟩ | ⟨g, cp, _, rfl, _⟩
          · exact ⟨none, 0, by rw [h]⟩
          · exact ⟨_, _, rfl⟩
        have ca := st'.ba.cell
        have hszw := st'.be.size
        rw [hn.out] at hl'
        clear seq hr
        by_cases hfull : n = 200
        · have hfull' : ((n : Int) == 200) = true := by simp; omega
          have hlen2 : Hid (200 < (done ++ (pre ++ [x])).length) := by show _ < _; rw [← List.append_assoc, List.length_append, hn.out]; simp; omega
          have c2 := st'.b2.cell
          have f2 := st'.b2.frozen
          have c3 := st'.b3.cell
          have f3 := st'.b3.frozen
          have e2 := (st'.b2.set (.slice none 0 0)).other (B' := w.heap.size + 1) (by omega) (errN 3)
          have e3 := (st'.b3.other (B' := w.heap.size) (by omega) (.slice none 0 0)).set (errN 3)
          have k2 := (st'.ms.set st'.b2 (.slice none 0 0)).set (st'.b3.other (B' := w.heap.size) (by omega) (.slice none 0 0)) (errN 3)
          have hbE := (st'.be.setCell (p := ⟨w.heap.size, 0, none⟩) (Nat.le_refl _) (.slice none 0 0)).setCell (p := ⟨w.heap.size + 1, 0, none⟩) (by simp) (errN 3)
          have kE := ((KeepsOthers.setCell W' ⟨w.heap.size, 0, none⟩ (.slice none 0 0)).trans (KeepsOthers.setCell _ ⟨w.heap.size + 1, 0, none⟩ (errN 3))).from Wl.heap.size
          clear hfull
          gi_wp2
          exact ⟨kE, rfl, hlen2.out, e2, e3, k2, hbE⟩
        · have hfull' : ((n : Int) == 200) = false := by simp; omega
          have row := st'.row
          rw [hn.out] at row
          have hlen2 : Hid ((done ++ (pre ++ [x])).length ≤ 200) := by show _ ≤ _; rw [← List.append_assoc, List.length_append, hn.out]; simp; omega
          gi_wp2_with (gi_at_builtin; refine wpListIn_append_own _ rfl _ _ 24 rfl w.heap.size 23 i0 (.agg #[.int .i64 0, .int .i64 0]) 2 16 Tryz.underlying24 hin hz0 hz1 hz2 rfl (by decide) _ _ _ rfl (row.alloc _) ⟨W'.heap.size, 0, none⟩ 1 1 [.int .i64 x.1, .int .i64 x.2] rfl rfl (two_newP rfl) two_oneP (by unfold maxLen; omega) (by omega) (by simp; omega) ?_; intro v'' w1' hown' hgrow _; obtain ⟨g', cap', rfl⟩ := ownsRow_succ hown'; obtain ⟨hv1, st2, hp2, hk2, hb2⟩ := st'.appended (x := x) hp' hBc (by rw [hn.out]; exact hown') hgrow; have hc1 := hv1.cell; have hf1 := hv1.frozen)
          exact ⟨hk2.from _, ⟨fun _ => hp2, hb2⟩, _, by rw [← List.append_assoc]; exact st2, hlen2.out, hp2⟩
      case done =>
        rintro D ys Wd hD rfl ⟨v', st', hl', hp'⟩ hK
        have st2 : St w w1.heap.size Wd (D :: Ds) (done ++ Bur.cov a z) v' := { st' with ms := ⟨List.pairwise_cons.2 ⟨fun E hE e => by have := hDl E hE; omega, st'.ms.1⟩, fun E hE => by
          rcases List.mem_cons.1 hE with rfl | hE
          · exact ⟨by omega, hK⟩
          · exact st'.ms.2 E hE⟩ }
        have R3 : Hid (Bur.cvs l = (done ++ Bur.cov a z) ++ Bur.cvs (l.drop (k + 1))) := by show _ = _; rw [R2.out, List.append_assoc]
        have ek : ((k + 1 : Nat) : Int) = (k : Int) + 1 := by omega
        clear seq st' R2 hK
        go_wp2_with fail
        rw [← ek]
        exact ⟨⟨k + 1, D :: Ds, done ++ Bur.cov a z, v', _, _, _, _, _, _, _, _, _, _, _, _, _, _, _, _, _, rfl, by omega, hl', R3, st2⟩, by simp [intOf]; omega⟩
      case stop =>
        rintro D c pre Wd hD hSp ⟨rfl, h2, h3, h4, h5, h6⟩ hK
        have ms2 : Marks w.heap.size (D :: Ds) Wd := ⟨List.pairwise_cons.2 ⟨fun E hE e => by have := hDl E hE; omega, h5.1⟩, fun E hE => by
          rcases List.mem_cons.1 hE with rfl | hE
          · exact ⟨by omega, hK⟩
          · exact h5.2 E hE⟩
        have F : Hid (Bur.cvF l = 3) := by
          show _ = _
          rw [hF.out, if_pos]
          obtain ⟨t, ht⟩ := hSp
          rw [R2.out, ← ht]
          simp only [List.length_append] at h2 ⊢
          omega
        have S : Hid (Bur.cvS l = []) := by show _ = _; unfold Bur.cvS; rw [if_neg (by rw [F.out]; decide)]
        clear seq
        refine wpIn_wide.2 ?_
        go_wp2_with fail
        exact set_ret (m := w.heap.size) (Ds := D :: Ds) rfl rfl h6.size ms2 h3.cell h4.cell (fun W' kc b => ⟨none, 0, by rw [S.out, F.out]; rfl, by rw [S.out]; exact SpAt.nil _ _, h6.trans b⟩)
    · have hd0 : l.drop k = [] := List.drop_eq_nil_of_le (by omega)
      have R2 : Hid (Bur.cvs l = done) := by show _ = _; rw [R.out, hd0]; simp [Bur.cvs]
      have F : Hid (Bur.cvF l = 0) := by show _ = _; rw [hF.out, R2.out, if_neg (by omega)]
      have S : Hid (Bur.cvS l = done) := by show _ = _; unfold Bur.cvS; rw [if_pos F.out, R2.out]
      clear R hd0
      have ca := st.ba.cell
      have c2 := st.b2.cell
      have f2 := st.b2.frozen
      have c3 := st.b3.cell
      have f3 := st.b3.frozen
      obtain ⟨pv, cv, rfl⟩ : ∃ pv cv, v = .slice pv done.length cv := by
        rcases st.row.2 with ⟨rfl, h⟩ | ⟨g, cp, _, rfl, _⟩
        · exact ⟨none, 0, by rw [h]⟩
        · exact ⟨_, _, rfl⟩
      have row := st.row
      have hsz := st.be.size
      go_wp2_with fail
      have e2 := (st.b2.set (.slice pv done.length cv)).other (B' := w.heap.size + 1) (by omega) .nilIface
      have e3 := (st.b3.other (B' := w.heap.size) (by omega) (.slice pv done.length cv)).set .nilIface
      have k1 := st.ms.set st.b2 (.slice pv done.length cv)
      have k2 := k1.set (st.b3.other (B' := w.heap.size) (by omega) (.slice pv done.length cv)) .nilIface
      have r1 := row.kept (grownBy_setCell' W w.heap.size (.slice pv done.length cv)) (.inr (st.b2.not_row (by decide) row).symm)
      have r2 := r1.kept (grownBy_setCell' _ (w.heap.size + 1) .nilIface) (.inr ((st.b3.other (B' := w.heap.size) (by omega) (.slice pv done.length cv)).not_row (by decide) r1).symm)
      have hbE := (st.be.setCell (p := ⟨w.heap.size, 0, none⟩) (Nat.le_refl _) (.slice pv done.length cv)).setCell (p := ⟨w.heap.size + 1, 0, none⟩) (by simp) .nilIface
      refine set_ret (m := w.heap.size) rfl rfl hbE.size k2 e2.cell e3.cell (fun W' kc b => ?_)
      refine ⟨pv, cv, by rw [S.out, F.out]; rfl, ?_, hbE.trans b⟩
      rw [S.out]
      exact (spAt_ownP r2).2.kc kc
  · have hev : Hid (ev (Bur.setF l) = errN (Bur.setF l)) := ev_ne hf
    rw [hev.out]
    have F : Hid (Bur.cvF l = Bur.setF l) := if_neg hf
    have S : Hid (Bur.cvS l = []) := by show _ = _; unfold Bur.cvS; rw [F.out, if_neg hf]
    have c2 := b2'.cell
    have f2 := b2'.frozen
    have c3 := b3'.cell
    have f3 := b3'.frozen
    have hsz := hbw.size
    go_wp2_with fail
    have d2 := b2'.set (.slice none 0 0)
    have d2' := d2.other (B' := w.heap.size + 1) (by omega) (errN (Bur.setF l))
    have d3 := (b3'.other (B' := w.heap.size) (by omega) (.slice none 0 0)).set (errN (Bur.setF l))
    have hbE : Below w.heap.size w ((w1.setCell ⟨w.heap.size, 0, none⟩ (.slice none 0 0)).setCell ⟨w.heap.size + 1, 0, none⟩ (errN (Bur.setF l))) := (hbw.setCell (p := ⟨w.heap.size, 0, none⟩) (Nat.le_refl _) _).setCell (p := ⟨w.heap.size + 1, 0, none⟩) (by simp) _
    refine set_ret (m := w.heap.size) (Ds := []) rfl rfl hbE.size ⟨List.Pairwise.nil, fun _ h => by cases h⟩ d2'.cell d3.cell (fun W' k b => ?_)
    exact ⟨none, 0, by rw [S.out, F.out, hev.out]; rfl, by rw [S.out]; exact SpAt.nil _ _, hbE.trans b⟩
end Go.Proofs.YtfhidiedmenliaaGreatDoor
