/- The contract of host's usableAndTaken: what is used stands in a map. -/
import Derived.Test.YtdjiodikefoliaaDoorCHsA
import Derived.Maps.OwnSet
import Derived.WalkArith
namespace Go.Proofs.YtdjiodikefoliaaDoor.Ha
open Go.RowKit Go.Maps

/-- What is used, as the map has it. -/
def tkD (lo hi : Int) (u : List Int) : DataW Unit := Maps.setOf (.agg []) ((Bur.tk lo hi u).map (Lit.int .i64))
theorem any_key (x : Int) : ∀ l : List Int, (l.map (Lit.int .i64)).any (fun y => y.sameKey (.int .i64 x)) = decide (x ∈ l)
  | [] => rfl
  | a :: r => by
    rw [List.map_cons, List.any_cons, any_key x r]
    show (decide (IntKind.i64 = IntKind.i64 ∧ a = x) || decide (x ∈ r)) = _
    by_cases e : a = x
    · subst e; simp
    · have e' : ¬ x = a := fun h => e h.symm
      simp [e, e']
theorem lits_key (l : List Int) : ∀ x ∈ l.map (Lit.int .i64), WideAt.IsKeyLit x := fun x hx => by obtain ⟨_, _, rfl⟩ := List.mem_map.1 hx; trivial
theorem has_tk (lo hi x : Int) (u : List Int) : Maps.has (tkD lo hi u) (.int .i64 x) = decide (x ∈ Bur.tk lo hi u) := by
  unfold tkD
  rw [has_setOf _ _ _ (lits_key _)]
  exact any_key x _
theorem fold_add : ∀ (l acc : List Int), (l.map (Lit.int .i64)).foldl addKey (acc.map (Lit.int .i64)) = (l.foldl Bur.addI acc).map (Lit.int .i64)
  | [], _ => rfl
  | a :: r, acc => by
    rw [List.map_cons, List.foldl_cons, List.foldl_cons, ← fold_add r]
    congr 1
    unfold addKey Bur.addI
    rw [any_key]
    by_cases h : a ∈ acc
    · rw [if_pos (by simpa using h), if_pos h]
    · rw [if_neg (by simpa using h), if_neg h, List.map_append]; rfl
theorem size_tk (p : Bur.Sp) (u : List Int) : (Maps.size (tkD (Bur.usa p).1 (Bur.usa p).2 u) : Int) = Bur.shp p u := by
  unfold tkD
  rw [size_setOf _ _ (lits_key _), show ([] : List Lit) = ([] : List Int).map (Lit.int .i64) from rfl, fold_add, List.length_map, Bur.tk_all]
theorem tkD_nil (lo hi : Int) : tkD lo hi [] = .map [] := rfl
theorem tkD_in {lo hi x : Int} (h1 : lo ≤ x) (h2 : x ≤ hi) (u : List Int) : tkD lo hi (u ++ [x]) = (tkD lo hi u).put (.int .i64 x) (.agg []) := by
  unfold tkD
  rw [Bur.tk_snoc, if_pos ⟨h1, h2⟩, List.map_append, List.map_singleton, setOf_snoc]
theorem tkD_out {lo hi x : Int} (h : ¬ (lo ≤ x ∧ x ≤ hi)) (u : List Int) : tkD lo hi (u ++ [x]) = tkD lo hi u := by
  unfold tkD
  rw [Bur.tk_snoc, if_neg h]
theorem map_below {w w' : World} {k b n : Nat} {R : Value → Option (DataW Unit × List MemPlace)} {D : DataW Unit} (h : w.ownsMap Tryd.prog k R b n D) (hb : Below w.heap.size w w') : w'.ownsMap Tryd.prog k R b n D := by
  obtain ⟨es, clock, h1, r⟩ := h
  exact ⟨es, clock, (hb.block b (Array.getElem?_eq_some_iff.1 h1).1).trans h1, r⟩
theorem keyInt : Keyed Tryd.prog 3 := int_keyed Tryd.underlying3
theorem zeroUnit (w : World) : (zeroValue 82).run Tryd.prog w = .ok (.agg #[]) w := by kernel_rfl
theorem key_adr {x : Int} (h : Bur.isA x = true) : keyOf Tryd.prog 3 (.int .i64 x) = some (.int .i64 x) := keyOf_int_mk Tryd.underlying3 (by have := Bur.isA_true h; exact WalkArith.wf_i64 (by omega))

set_option maxHeartbeats 1000000 in
theorem taken_no (a l : Int) (u : List Int) (p : Option Addr) (cap : Nat) (w : World) (hl : u.length ≤ 9223372036854775807) (hu : InAt w p u) (h : Bur.usF (a, l) u ≠ 0) :
    Calls Tryd.prog 40 #[pfx a l, .slice p u.length cap] w fun e w' => e = .returned (.tuple #[pfx 0 0, .map none, errN (Bur.usF (a, l) u)]) ∧ Below w.heap.size w w' := by
  have hbA : Below w.heap.size w ((w.alloc (.cells #[.int .i64 a, .int .i64 l] 24)).alloc (.cells #[.int .i64 0, .int .i64 0] 64)) := below_al (below_al (below_self w) _) _
  have bx0 := Bx.new (w.alloc (.cells #[.int .i64 a, .int .i64 l] 24)) 64 0 0
  rw [World.size_alloc] at bx0
  by_cases hf : Bur.fault a l = 0
  · have E : Bur.usF (a, l) u = if 200 < u.length then 3 else Bur.adF u := if_pos hf
    have H : Hid (ev (if 200 < u.length then 3 else Bur.adF u) = errN (Bur.usF (a, l) u)) := by show _ = _; rw [← E]; exact ev_ne h
    have H0 : Hid (ev (Bur.fault a l) = .nilIface) := by show _ = _; rw [hf]; rfl
    clear E hf
    go_enter Tryd.func40, Tryd.ntmps40
    go_wp2_with fail
    refine (usable _ _ _).mono ?_
    rintro e w1 ⟨rfl, hb1⟩
    have bx1 := bx0.step hb1
    replace hb1 := below_via hbA hb1
    have hu1 := hu.step hb1
    have bx2 := fun o => bx1.step (below_al (below_self w1) o)
    have hb2 := fun o => below_al hb1 o
    have hu2 := fun o => hu1.step (below_al (below_self w1) o)
    rw [H0.out]
    clear hu hbA bx0 bx1 hb1 hu1 H0
    go_wp2_with fail
    refine (checkUsed u p cap _ hl (hu2 _)).mono ?_
    rintro e w2 ⟨rfl, hb3⟩
    obtain ⟨c0, c1, f0, f1⟩ := (bx2 _).step hb3
    have hb4 := below_via (hb2 _) hb3
    rw [H.out]
    clear bx2 hb2 hu2 hb3 H h
    go_wp2
    exact bodyPost_ret (v := .tuple #[pfx 0 0, .map none, errN (Bur.usF (a, l) u)]) (by simp [results, Tryd.results40, go_sem, c0, c1]) rfl ⟨rfl, by repeat (first | exact hb4 | refine Below.setCell ?_ (by simp) _)⟩
  · have E : Bur.usF (a, l) u = Bur.fault a l := if_neg hf
    have H0 : Hid (ev (Bur.fault a l) = errN (Bur.fault a l)) := ev_ne hf
    rw [E]
    clear E hf h
    go_enter Tryd.func40, Tryd.ntmps40
    go_wp2_with fail
    refine (usable _ _ _).mono ?_
    rintro e w1 ⟨rfl, hb1⟩
    have bx1 := bx0.step hb1
    replace hb1 := below_via hbA hb1
    rw [H0.out]
    obtain ⟨c0, c1, f0, f1⟩ := bx1.step (below_al (below_self w1) (.cells #[.int .i64 (Bur.usS (a, l)).1, .int .i64 (Bur.usS (a, l)).2] 64))
    have hb2 := below_al hb1 (.cells #[.int .i64 (Bur.usS (a, l)).1, .int .i64 (Bur.usS (a, l)).2] 64)
    clear hu hbA bx0 bx1 hb1 H0
    go_wp2
    exact bodyPost_ret (v := .tuple #[pfx 0 0, .map none, errN (Bur.fault a l)]) (by simp [results, Tryd.results40, go_sem, c0, c1]) rfl ⟨rfl, by repeat (first | exact hb2 | refine Below.setCell ?_ (by simp) _)⟩

set_option maxHeartbeats 2000000 in
theorem taken_ok (a l : Int) (u : List Int) (p : Option Addr) (cap : Nat) (w : World) (hu : InAt w p u) (h : Bur.usF (a, l) u = 0) :
    Calls Tryd.prog 40 #[pfx a l, .slice p u.length cap] w fun e w' => ∃ B, w.heap.size ≤ B ∧ e = .returned (.tuple #[pfx (Bur.usa (a, l)).1 (Bur.usa (a, l)).2, .map (some B), .nilIface]) ∧ w'.ownsMap Tryd.prog 3 unitElem B u.length (tkD (Bur.usa (a, l)).1 (Bur.usa (a, l)).2 u) ∧ Below w.heap.size w w' := by
  have hmm := @run_makeMap Tryd.prog
  have hbA : Below w.heap.size w ((w.alloc (.cells #[.int .i64 a, .int .i64 l] 24)).alloc (.cells #[.int .i64 0, .int .i64 0] 64)) := below_al (below_al (below_self w) _) _
  have bx0 := Bx.new (w.alloc (.cells #[.int .i64 a, .int .i64 l] 24)) 64 0 0
  rw [World.size_alloc] at bx0
  obtain ⟨hp, hl, hA⟩ := Bur.usF_ok h
  have hf : Bur.fault a l = 0 := hp
  obtain ⟨x, hx⟩ : ∃ x, x = (Bur.usa (a, l)).1 := ⟨_, rfl⟩
  obtain ⟨y, hy⟩ : ∃ y, y = (Bur.usa (a, l)).2 := ⟨_, rfl⟩
  have hus : Hid (Bur.usS (a, l) = (x, y)) := by show _ = _; rw [hx, hy]; exact if_pos hf
  have H : Hid (ev (if 200 < u.length then 3 else Bur.adF u) = .nilIface) := by show _ = _; rw [← show Bur.usF (a, l) u = if 200 < u.length then 3 else Bur.adF u from if_pos hf, h]; rfl
  have H0 : Hid (ev (Bur.fault a l) = .nilIface) := by show _ = _; rw [hf]; rfl
  have hin := Bur.usa_in hp
  rw [← hx, ← hy] at hin ⊢
  clear hf h hp hx hy
  go_enter Tryd.func40, Tryd.ntmps40
  go_wp2_with fail
  refine (usable _ _ _).mono ?_
  rintro e w1 ⟨rfl, hb1⟩
  rw [hus.out, H0.out]
  have bx1 := bx0.step hb1
  replace hb1 := below_via hbA hb1
  have hu1 := hu.step hb1
  have bs := Bx.new w1 64 x y
  have bx2 := bx1.step (below_al (below_self w1) (.cells #[.int .i64 x, .int .i64 y] 64))
  have hb2 := below_al hb1 (.cells #[.int .i64 x, .int .i64 y] 64)
  have hu2 := hu1.step (below_al (below_self w1) (.cells #[.int .i64 x, .int .i64 y] 64))
  have hs1 := hb1.size
  clear hu hbA bx0 bx1 hb1 hu1 H0 hus
  go_wp2_with fail
  refine (checkUsed u p cap _ (by omega) hu2).mono ?_
  rintro e w2 ⟨rfl, hb3⟩
  replace bx2 := bx2.step hb3
  replace bs := bs.step hb3
  replace hu2 := hu2.step hb3
  replace hb2 := below_via hb2 hb3
  rw [H.out]
  clear hb3 H
  go_wp2
  go_loopw [31] (fun i wr => ∃ k : Nat, k ≤ u.length ∧ i = .int .i64 k ∧ wr.ownsMap Tryd.prog 3 unitElem w2.heap.size k (tkD x y (u.take k)) ∧ Below w2.heap.size w2 wr) (fun i _ => u.length - (intOf i).toNat)
  case atStart => exact ⟨0, by omega, rfl, by rw [List.take_zero, tkD_nil]; exact World.ownsMap_made _ _ _ _, below_al (below_self _) _⟩
  case round =>
    obtain ⟨k, hk, rfl, hown, hb⟩ := hrel
    obtain ⟨s0, s1, _, _⟩ := bs.step hb
    by_cases hlt : k < u.length
    · have hlt' : (k : Int) < (u.length : Int) := by omega
      obtain ⟨b, off, rfl, hbl, hc⟩ := hu2 (by omega)
      have c0 : wr.cell? ⟨b, off + k, none⟩ = some (.int .i64 (u.getD k 0)) := (hb.cell (p := ⟨b, off + k, none⟩) hbl).trans (hc k hlt)
      have hT : Hid (u.take (k + 1) = u.take k ++ [u.getD k 0]) := take_int hlt
      have hZ : Bur.isA (u.getD k 0) = true := hA _ (by simp [List.getD, List.getElem?_eq_getElem hlt])
      obtain ⟨z, hz⟩ : ∃ z, z = u.getD k 0 := ⟨_, rfl⟩
      rw [← hz] at c0 hT hZ
      have hkey := key_adr hZ
      have hzz := Bur.isA_true hZ
      clear hz hc hu2 hZ bx2 bs hA
      by_cases h1 : x ≤ z
      · by_cases h2 : z ≤ y
        · go_wp2_with (first
            | (at_mapUpdate; refine wpList_mapUpdate_own _ rfl _ _ _ 92 rfl 3 82 keyInt Tryd.underlying92 (unitElem (H := Unit)) w2.heap.size k _ rfl hown (by unfold maxLen; omega) _ _ _ rfl rfl hkey _ [] unitElem_mk ?_; intro w3 hown1 hgrow1)
            | go_in)
          exact ⟨⟨k + 1, by omega, by go_num, by rw [hT.out, tkD_in h1 h2]; exact hown1, hb.grown hgrow1 hb.size (fun j hj => by cases hj; exact Nat.le_refl _)⟩, by simp [intOf]; omega⟩
        · go_wp2
          exact ⟨⟨k + 1, by omega, by go_num, by rw [hT.out, tkD_out (by omega)]; exact hown.mono (Nat.le_succ _), hb⟩, by simp [intOf]; omega⟩
      · go_wp2
        exact ⟨⟨k + 1, by omega, by go_num, by rw [hT.out, tkD_out (by omega)]; exact hown.mono (Nat.le_succ _), hb⟩, by simp [intOf]; omega⟩
    · obtain ⟨c0, c1, f0, f1⟩ := bx2.step hb
      have hE : k = u.length := by omega
      have hown' : wr.ownsMap Tryd.prog 3 unitElem w2.heap.size u.length (tkD x y u) := by rw [hE, List.take_length] at hown; exact hown
      have hne : w2.heap.size ≠ w.heap.size + 1 := fun g => by have := bx2.lt; omega
      have hs2 := hb2.size
      have hB := below_via hb2 hb
      have hv1 := (hown'.setCell (a := ⟨w.heap.size + 1, 0, none⟩) hne (.int .i64 x)).setCell (a := ⟨w.heap.size + 1, 1, none⟩) hne (.int .i64 y)
      clear hown hA hu2 bx2 bs
      go_wp2
      exact bodyPost_ret (v := .tuple #[pfx x y, .map (some w2.heap.size), .nilIface]) (by simp [results, Tryd.results40, go_sem, c0, c1]) rfl ⟨w2.heap.size, hs2, rfl, hv1, by repeat (first | exact hB | refine Below.setCell ?_ (by simp) _)⟩

set_option maxHeartbeats 1000000 in
theorem share (a l : Int) (u : List Int) (p : Option Addr) (cap : Nat) (w : World) (hl : u.length ≤ 9223372036854775807) (hu : InAt w p u) :
    Calls Tryd.prog 27 #[pfx a l, .slice p u.length cap] w fun e w' => e = .returned (.tuple #[.int .i64 (Bur.shS (a, l) u), .int .i64 (Bur.shA (a, l) u), ev (Bur.usF (a, l) u)]) ∧ Below w.heap.size w w' := by
  have hbA := below_al (below_self w) (.cells #[.int .i64 a, .int .i64 l] 24)
  by_cases h : Bur.usF (a, l) u = 0
  · rw [show Bur.shS (a, l) u = Bur.shp (a, l) u from if_pos h, show Bur.shA (a, l) u = (Bur.usa (a, l)).2 - (Bur.usa (a, l)).1 + 1 from if_pos h, h, ev_0, ← size_tk]
    have hin := Bur.usa_in (Bur.usF_ok h).1
    have K := taken_ok _ _ u p cap _ (hu.step hbA) h
    obtain ⟨x, hx⟩ : ∃ x, x = (Bur.usa (a, l)).1 := ⟨_, rfl⟩
    obtain ⟨y, hy⟩ : ∃ y, y = (Bur.usa (a, l)).2 := ⟨_, rfl⟩
    rw [← hx, ← hy] at hin K ⊢
    clear hx hy h hu
    go_enter Tryd.func27, Tryd.ntmps27
    go_wp2_with fail
    refine K.mono ?_
    rintro e w1 ⟨B, hB, rfl, hown, hb1⟩
    have hb2 := below_via hbA hb1
    have hlen := (hown.alloc (.cells #[.int .i64 x, .int .i64 y] 64)).drew.len Tryd.underlying92
    clear hbA K hown
    go_wp2
    go_region_held3 (fun wy => wy.cell? ⟨w1.heap.size, 0, none⟩ = some (.int .i64 x) ∧ wy.cell? ⟨w1.heap.size, 1, none⟩ = some (.int .i64 y) ∧ ∀ ty, (Builtin.len_ #[92] ty #[.map (some B)]).run Tryd.prog wy = .ok (.int .i64 (Maps.size (tkD x y u))) wy) (first | exact ⟨by simp, by simp, hlen⟩ | go_simp) (fail)
    go_wp2
    go_ret3
    have hwr : IntKind.i64.wrap (IntKind.i64.wrap (y - x) + 1) = y - x + 1 := by simp [IntKind.wrap, IntKind.bits, IntKind.signed]; omega
    exact ⟨by show Ending.returned (.tuple #[_, .int .i64 (IntKind.i64.wrap (IntKind.i64.wrap (y - x) + 1)), _]) = _; rw [hwr]; rfl, (below_al hb2 _).drew⟩
  · rw [show Bur.shS (a, l) u = 0 from if_neg h, show Bur.shA (a, l) u = 0 from if_neg h, ev_ne h]
    go_enter Tryd.func27, Tryd.ntmps27
    go_wp2_with fail
    refine (taken_no _ _ u p cap _ hl (hu.step hbA) h).mono ?_
    rintro e w1 ⟨rfl, hb1⟩
    have hb2 := below_via hbA hb1
    clear h hbA hb1 hu
    go_wp2
    go_ret3
    exact ⟨rfl, below_al hb2 _⟩

end Go.Proofs.YtdjiodikefoliaaDoor.Ha
