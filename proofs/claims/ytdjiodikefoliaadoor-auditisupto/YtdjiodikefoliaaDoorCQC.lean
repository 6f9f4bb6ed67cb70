/- Package audit: the first error, a pair's place, a prefix that has an address. -/
import Derived.Test.YtdjiodikefoliaaDoorCAuB
import Derived.Laws.Cover1
namespace Bur
/-- The first that is not 0. -/
def fnz : List Int → Int
  | [] => 0
  | f :: r => if f = 0 then fnz r else f
theorem drop_cons {α : Type} {l : List α} {k : Nat} {x : α} (h : l[k]? = some x) : l.drop k = x :: l.drop (k + 1) := by
  obtain ⟨hk, rfl⟩ := List.getElem?_eq_some_iff.1 h
  exact List.drop_eq_getElem_cons hk
theorem au_le (a b : ByteArray) : (Go.Op.bytesLess a.toList b.toList || a.toList == b.toList) = !(Vs.bl b a) := by
  rw [show Go.Op.bytesLess a.toList b.toList = Vs.bl a b from rfl, Vs.beq_str]
  by_cases h : a = b
  · subst h
    rw [Vs.bl_irr]; simp
  · rw [decide_eq_false h, Bool.or_false]
    cases h1 : Vs.bl b a with
    | true =>
      cases h2 : Vs.bl a b with
      | true => have := Vs.bl_trans h1 h2; rw [Vs.bl_irr] at this; cases this
      | false => rfl
    | false =>
      cases h2 : Vs.bl a b with
      | true => rfl
      | false => exact absurd (Vs.bl_tri h2 h1) h
end Bur
namespace Go.Proofs.YtdjiodikefoliaaDoor.Au
open Go.RowKit Go.Maps Pa

theorem auFirst (fs : List Int) (b cap : Nat) (w : World) (hc : ∀ i f, fs[i]? = some f → w.cell? ⟨b, i, none⟩ = some (ev f)) (hl : fs.length ≤ 100) :
    Calls Tryd.prog 20 #[.slice (some ⟨b, 0, none⟩) fs.length cap] w fun e w' => e = .returned (ev (Bur.fnz fs)) ∧ w' = w := by
  obtain ⟨R, hR⟩ : ∃ R, R = Bur.fnz fs := ⟨_, rfl⟩
  have hR0 : Hid (R = Bur.fnz (fs.drop 0)) := hR
  rw [← hR]
  clear hR
  go_enter Tryd.func20, Tryd.ntmps20
  go_wp2
  go_loopw [7] (fun i wr => ∃ k : Nat, k ≤ fs.length ∧ i = .int .i64 k ∧ Hid (R = Bur.fnz (fs.drop k)) ∧ wr = w) (fun i _ => fs.length - (intOf i).toNat)
  case atStart => exact ⟨0, by omega, rfl, hR0, rfl⟩
  case round =>
    obtain ⟨k, hk, rfl, hM, hw⟩ := hrel
    have hw' := hw.symm
    subst hw'
    clear hR0
    by_cases hlt : k < fs.length
    · have hlt' : (k : Int) < (fs.length : Int) := by omega
      obtain ⟨f, hf⟩ : ∃ f, fs[k]? = some f := ⟨fs[k], List.getElem?_eq_getElem hlt⟩
      have c0 := hc k f hf
      have hd := Bur.drop_cons hf
      by_cases h0 : f = 0
      · subst h0
        rw [ev_0] at c0
        have hM2 : Hid (R = Bur.fnz (fs.drop (k + 1))) := by show _ = _; rw [hM.out, hd]; rfl
        clear hM hd hf hc
        go_wp2
        exact ⟨⟨k + 1, by omega, by go_num, hM2, trivial⟩, by simp [intOf]; omega⟩
      · rw [ev_ne h0] at c0
        have hM2 : Hid (R = f) := by show _ = _; rw [hM.out, hd]; exact if_neg h0
        have hE : Hid (ev f = errN f) := ev_ne h0
        clear hM hd hf hc
        go_wp2
        go_ret
        exact ⟨by rw [hM2.out]; exact congrArg Ending.returned hE.out.symm, rfl⟩
    · have hlt' : ¬ (k : Int) < (fs.length : Int) := by omega
      have hM2 : Hid (R = 0) := by show _ = _; rw [hM.out, List.drop_of_length_le (by omega)]; rfl
      clear hM hc
      go_wp2
      go_ret
      exact ⟨by rw [hM2.out]; rfl, rfl⟩
set_option maxRecDepth 100000 in
theorem auPlace (L : List Vs.Pr) (p : Option Addr) (cap i : Nat) (x : Vs.Pr) (w : World) (hp : PrAt w p L) (hx : L[i]? = some x) (hl : L.length ≤ 1000) :
    Calls Tryd.prog 33 #[.slice p L.length cap, .int .i64 i] w fun e w' => e = .returned (ev (Bur.plE (Bur.prv L i) x.1)) ∧ Below w.heap.size w w' := by
  have hi : i < L.length := (List.getElem?_eq_some_iff.1 hx).1
  obtain ⟨b, off, rfl, hbl, hc⟩ := hp (by omega)
  by_cases h0 : i = 0
  · subst h0
    rw [show Bur.plE (Bur.prv L 0) x.1 = 0 from rfl, ev_0]
    clear hc hx
    go_enter Tryd.func33, Tryd.ntmps33
    go_wp2
    go_quiet (fail)
    go_wp2
    go_ret
    exact ⟨rfl, below_drewN (below_self _) _⟩
  · obtain ⟨y, hy⟩ : ∃ y, L[i - 1]? = some y := ⟨L[i - 1], List.getElem?_eq_getElem (by omega)⟩
    have c0 := (hc i x hx).1
    have c1 := (hc (i - 1) y hy).1
    have hpr : Bur.prv L i = some y.1 := by unfold Bur.prv; rw [if_neg h0, hy]; rfl
    rw [hpr]
    have hle := Bur.au_le x.1 y.1
    have i0 : (0 : Int) < (i : Int) := by omega
    have i1 : (i : Int) < (L.length : Int) := by omega
    obtain ⟨j, rfl⟩ : ∃ j, i = j + 1 := ⟨i - 1, by omega⟩
    rw [show j + 1 - 1 = j from rfl] at c1
    show Calls _ _ _ _ fun e w' => e = .returned (ev (if Vs.bl y.1 x.1 = true then 0 else 2)) ∧ _
    cases hb : Vs.bl y.1 x.1 with
    | true =>
      rw [hb] at hle
      have hle : (Op.bytesLess x.1.toList y.1.toList || x.1.toList == y.1.toList) = false := hle
      rw [if_pos rfl, ev_0]
      clear hpr hb hx hy hc h0
      go_enter Tryd.func33, Tryd.ntmps33
      go_wp2
      go_quiet (fail)
      go_wp2
      go_ret
      exact ⟨rfl, below_drewN (below_self _) _⟩
    | false =>
      rw [hb] at hle
      have hle : (Op.bytesLess x.1.toList y.1.toList || x.1.toList == y.1.toList) = true := hle
      rw [if_neg (by decide), ev_ne (by decide)]
      clear hpr hb hx hy hc h0
      go_enter Tryd.func33, Tryd.ntmps33
      go_wp2
      go_quiet (fail)
      go_wp2
      go_ret
      exact ⟨rfl, below_drewN (below_self _) _⟩
end Go.Proofs.YtdjiodikefoliaaDoor.Au

/- Package audit: a prefix that has an address is looked for; what was seen. -/
namespace Go.Proofs.YtdjiodikefoliaaDoor.Au
open Go.RowKit Go.Maps Pa

/-- A box of a lot. -/
structure Lb (w : World) (b : Nat) (n : List UInt8) (x l : Int) : Prop where
  c0 : w.cell? ⟨b, 0, none⟩ = some (.string ⟨n.toArray⟩)
  c1 : w.cell? ⟨b, 1, none⟩ = some (.int .i64 x)
  c2 : w.cell? ⟨b, 2, none⟩ = some (.int .i64 l)
  f1 : w.frozen? ⟨b, 1, none⟩ = false
  f2 : w.frozen? ⟨b, 2, none⟩ = false
theorem Lb.lt {w : World} {b : Nat} {n : List UInt8} {x l : Int} (h : Lb w b n x l) : b < w.heap.size := World.block_lt_of_cell? _ _ h.c0
theorem Lb.step {w w' : World} {b : Nat} {n : List UInt8} {x l : Int} (h : Lb w b n x l) (hb : Below w.heap.size w w') : Lb w' b n x l :=
  ⟨(hb.cell (p := ⟨b, 0, none⟩) h.lt).trans h.c0, (hb.cell (p := ⟨b, 1, none⟩) h.lt).trans h.c1, (hb.cell (p := ⟨b, 2, none⟩) h.lt).trans h.c2, (hb.frozen (p := ⟨b, 1, none⟩) h.lt).trans h.f1, (hb.frozen (p := ⟨b, 2, none⟩) h.lt).trans h.f2⟩
theorem Lb.new (w : World) (t : Nat) (n : List UInt8) (x l : Int) : Lb (w.alloc (.cells #[.string ⟨n.toArray⟩, .int .i64 x, .int .i64 l] t)) w.heap.size n x l := ⟨by simp, by simp, by simp, by simp, by simp⟩
theorem Lb.put {w : World} {b : Nat} {n : List UInt8} {x l : Int} (h : Lb w b n x l) (y m : Int) : Lb ((w.setCell ⟨b, 1, none⟩ (.int .i64 y)).setCell ⟨b, 2, none⟩ (.int .i64 m)) b n y m := by
  obtain ⟨c0, c1, c2, f1, f2⟩ := h
  exact ⟨set_off (set_off c0 (by decide)) (by decide), set_off (set_at c1) (by decide), set_at (set_off c2 (by decide)), by go_simp, by go_simp⟩
theorem Sg.lt {w : World} {A B : Nat} {L : List Vs.Pr} (h : Sg w A B L) : A < w.heap.size ∧ B < w.heap.size := by
  obtain ⟨⟨es, c, h1, _⟩, ⟨es', c', h2, _⟩⟩ := h
  exact ⟨(Array.getElem?_eq_some_iff.1 h1).1, (Array.getElem?_eq_some_iff.1 h2).1⟩
theorem Sg.set {w : World} {A B : Nat} {L : List Vs.Pr} (h : Sg w A B L) {b : Nat} (hA : A ≠ b) (hB : B ≠ b) (i : Nat) (v : Value) : Sg (w.setCell ⟨b, i, none⟩ v) A B L := ⟨h.n.setCell (a := ⟨b, i, none⟩) hA v, h.l.setCell (a := ⟨b, i, none⟩) hB v⟩
theorem set_blk {w : World} {b c i j : Nat} {u v : Value} (h : w.cell? ⟨c, j, none⟩ = some u) (hne : c ≠ b) : (w.setCell ⟨b, i, none⟩ v).cell? ⟨c, j, none⟩ = some u := by
  have e1 : (⟨c, j, none⟩ : Addr) ≠ ⟨b, i, none⟩ := fun e => hne (by injection e)
  go_simp
/-- What is found of an entry. -/
def caF (L : List Vs.Pr) (k : Int) (n : List UInt8) (a : Int) : Int := if k = 3 ∧ Bur.hasA L n a = false then 7 else 0
def lpN (w : World) : Value → Value → Nat
  | .nilIface, .pointer (some p) => (intOf ((w.cell? ⟨p.block, 2, none⟩).getD (.int .i64 0))).toNat + 1
  | _, _ => 0
theorem okUp {n : List UInt8} (hn : n.length ≤ maxLen) {a k : Int} (ha : Bur.isA a = true) (h0 : 0 ≤ k) (h1 : k ≤ 32) : OkK (n, Bur.upP a k) := by
  obtain ⟨_, _, a0, a1, _⟩ := Bur.fault_ok (Bur.upP_ok ha h0 h1)
  exact ⟨hn, ⟨by show _ ≤ (Bur.upP a k).1; omega, by show (Bur.upP a k).1 ≤ _; omega⟩, ⟨by show _ ≤ k; omega, by show k ≤ _; omega⟩⟩
set_option maxRecDepth 100000 in
set_option maxHeartbeats 4000000 in
theorem auCheckAddr {w : World} {A B : Nat} {L : List Vs.Pr} (h : Sg w A B L) {k : Int} {n : List UInt8} {x l : Int} (hn : n.length ≤ maxLen) (hk : k = 3 → l = 32 ∧ Bur.isA x = true) :
    Calls Tryd.prog 35 #[sgV A B, .agg #[.int .i64 k, .string ⟨n.toArray⟩, .int .i64 x, .int .i64 l]] w fun e w' => e = .returned (ev (caF L k n x)) ∧ Below w.heap.size w w' := by
  have b1 := below_al (below_self w) (.cells #[.map (some A), .map (some B)] 55)
  have b2 := below_al b1 (.cells #[.int .i64 k, .string ⟨n.toArray⟩, .int .i64 x, .int .i64 l] 79)
  have b3 := below_al b2 (.cells #[.string ⟨n.toArray⟩, .int .i64 x, .int .i64 l] 69)
  unfold sgV
  by_cases h3 : k = 3
  · subst h3
    obtain ⟨rfl, ha⟩ := hk rfl
    have s3 := h.step b3
    have lb0 := Lb.new ((w.alloc (.cells #[.map (some A), .map (some B)] 55)).alloc (.cells #[.int .i64 3, .string ⟨n.toArray⟩, .int .i64 x, .int .i64 32] 79)) 69 n x 32
    have q0 : (((w.alloc (.cells #[.map (some A), .map (some B)] 55)).alloc (.cells #[.int .i64 3, .string ⟨n.toArray⟩, .int .i64 x, .int .i64 32] 79)).alloc (.cells #[.string ⟨n.toArray⟩, .int .i64 x, .int .i64 32] 69)).cell? ⟨w.heap.size, 0, none⟩ = some (.map (some A)) := by go_simp
    have q1 : (((w.alloc (.cells #[.map (some A), .map (some B)] 55)).alloc (.cells #[.int .i64 3, .string ⟨n.toArray⟩, .int .i64 x, .int .i64 32] 79)).alloc (.cells #[.string ⟨n.toArray⟩, .int .i64 x, .int .i64 32] 69)).cell? ⟨w.heap.size, 1, none⟩ = some (.map (some B)) := by go_simp
    have hsz3 : (((w.alloc (.cells #[.map (some A), .map (some B)] 55)).alloc (.cells #[.int .i64 3, .string ⟨n.toArray⟩, .int .i64 x, .int .i64 32] 79)).alloc (.cells #[.string ⟨n.toArray⟩, .int .i64 x, .int .i64 32] 69)).heap.size = w.heap.size + 3 := by simp
    have ST : Hid _ := And.intro s3 (And.intro lb0 (And.intro q0 (And.intro q1 (And.intro b3 hsz3))))
    clear s3 lb0 q0 q1 b1 b2 b3 hsz3
    go_enter Tryd.func35, Tryd.ntmps35
    go_wp2
    go_loopw [5, 6] (fun er o wr => ∃ (b : Nat), o = .pointer (some ⟨b, 0, none⟩) ∧ w.heap.size < b ∧ Sg wr A B L ∧ wr.cell? ⟨w.heap.size, 0, none⟩ = some (.map (some A)) ∧ wr.cell? ⟨w.heap.size, 1, none⟩ = some (.map (some B)) ∧ Below w.heap.size w wr ∧ ((er = .nilIface ∧ ∃ j : Nat, j ≤ 32 ∧ Lb wr b n (Bur.upP x j).1 j ∧ Hid (∀ i : Int, (j : Int) < i → i ≤ 32 → Bur.hasQ L n (Bur.upP x i) = false)) ∨ (∃ f, f ≠ 0 ∧ er = errN f ∧ Hid (∀ i : Int, 0 ≤ i → i ≤ 32 → Bur.hasQ L n (Bur.upP x i) = false)))) (fun er o wr => lpN wr er o)
    case atStart =>
      obtain ⟨s3, lb0, q0, q1, b3, hsz3⟩ := ST.out
      have e32 : (Bur.upP x ((32 : Nat) : Int)).1 = x := congrArg Prod.fst (Bur.upP_32 x)
      rw [World.size_alloc, World.size_alloc] at lb0
      exact ⟨w.heap.size + 1 + 1, rfl, by omega, s3, q0, q1, b3, .inl ⟨rfl, 32, Nat.le_refl _, by rw [e32]; exact lb0, fun i h1 h2 => by omega⟩⟩
    case round =>
      obtain ⟨b, rfl, hbw, sg, q0, q1, hbe, hor⟩ := hrel
      clear ST
      rcases hor with ⟨rfl, j, hj, lb, hno⟩ | ⟨f, hf, rfl, hno⟩
      · have KH := auHas sg (x := (Bur.upP x j).1) (l := (j : Int)) (okUp hn ha (by omega) (by omega))
        have hm : lpN wr .nilIface (.pointer (some ⟨b, 0, none⟩)) = j + 1 := by
          show (intOf ((wr.cell? ⟨b, 2, none⟩).getD (.int .i64 0))).toNat + 1 = _
          rw [lb.c2]
          show (j : Int).toNat + 1 = j + 1
          omega
        have HM : Hid _ := hm
        clear hm
        unfold sgV at KH
        have KH' : Calls Tryd.prog 25 #[.agg #[.map (some A), .map (some B)], .agg #[.string ⟨n.toArray⟩, .int .i64 (Bur.upP x j).1, .int .i64 (j : Int)]] wr fun e w' => e = .returned (.bool (Bur.hasQ L n (Bur.upP x j))) ∧ Below wr.heap.size wr w' := KH
        clear KH
        obtain ⟨d0, d1, d2, _, _⟩ := lb
        cases hq : Bur.hasQ L n (Bur.upP x j) with
        | true =>
          rw [hq] at KH'
          have hA : Hid (caF L 3 n x = 0) := by
            show _ = _
            unfold caF
            rw [if_neg (fun q => by have := (Bur.hasA_up L n (a := x)).2 ⟨(j : Int), by omega, by omega, hq⟩; rw [this] at q; cases q.2)]
          clear hq hno
          go_wp2_with (go_at_call 25; refine KH'.mono ?_; rintro e w2 ⟨rfl, hb2⟩)
          go_ret
          exact ⟨by rw [hA.out]; rfl, below_via hbe hb2⟩
        | false =>
          rw [hq] at KH'
          have hno2 : Hid (∀ i : Int, (j : Int) ≤ i → i ≤ 32 → Bur.hasQ L n (Bur.upP x i) = false) := fun i h1 h2 => by
            by_cases e : (j : Int) = i
            · rw [← e]; exact hq
            · exact hno.out i (by omega) h2
          have KU := fun W => up_any (Bur.upP x j).1 (j : Int) W
          clear hq hno
          by_cases hj0 : j = 0
          · subst hj0
            have hF : Hid _ := Bur.upP_zero x
            have KU' : ∀ W : World, Calls Tryd.prog 48 #[pfx (Bur.upP x 0).1 0] W fun e w' => e = .returned (.tuple #[pfx (Bur.upA (Bur.upP x 0).1 0) (Bur.upL (Bur.upP x 0).1 0), errN (Bur.upF (Bur.upP x 0).1 0)]) ∧ Below W.heap.size W w' := fun W => by
              have := KU W
              rw [ev_ne (show Bur.upF (Bur.upP x ((0 : Nat) : Int)).1 ((0 : Nat) : Int) ≠ 0 from hF.out)] at this
              exact this
            have d1' : wr.cell? ⟨b, 1, none⟩ = some (.int .i64 (Bur.upP x 0).1) := d1
            have d2' : wr.cell? ⟨b, 2, none⟩ = some (.int .i64 0) := d2
            have KH2 : Calls Tryd.prog 25 #[.agg #[.map (some A), .map (some B)], .agg #[.string ⟨n.toArray⟩, .int .i64 (Bur.upP x 0).1, .int .i64 0]] wr fun e w' => e = .returned (.bool false) ∧ Below wr.heap.size wr w' := KH'
            clear KU KH' d1 d2
            generalize hX : (Bur.upP x 0).1 = X at *
            generalize Bur.upA X 0 = U at KU'
            generalize Bur.upL X 0 = V at KU'
            generalize hG : Bur.upF X 0 = G at KU'
            have hG0 : Hid (G ≠ 0) := by show G ≠ 0; rw [← hG]; exact hF.out
            clear hG hX hF
            go_wp2_with (first
              | (go_at_call 25; refine KH2.mono ?_; rintro e w2 ⟨rfl, hb2⟩; have sg2 := sg.step hb2; have e0 := (hb2.cell (p := ⟨b, 0, none⟩) (World.block_lt_of_cell? _ _ d0)).trans d0; have e1 := (hb2.cell (p := ⟨b, 1, none⟩) (World.block_lt_of_cell? _ _ d1')).trans d1'; have e2 := (hb2.cell (p := ⟨b, 2, none⟩) (World.block_lt_of_cell? _ _ d2')).trans d2'; have hbe2 := below_via hbe hb2; have hs2 := hbe2.size; have g0 := (hb2.cell (p := ⟨w.heap.size, 0, none⟩) (World.block_lt_of_cell? _ _ q0)).trans q0; have g1 := (hb2.cell (p := ⟨w.heap.size, 1, none⟩) (World.block_lt_of_cell? _ _ q1)).trans q1; have gw : w.heap.size < w2.heap.size := World.block_lt_of_cell? _ _ g0; have lbn := Lb.new w2 69 n X 0)
              | (go_at_call 48; refine (KU' _).mono ?_; rintro e w3 ⟨rfl, hb3⟩; have lb3 := lbn.step hb3; have bal := below_al (below_self w2) (.cells #[.string ⟨n.toArray⟩, .int .i64 X, .int .i64 0] 69); have sg3 := (sg2.step bal).step hb3; have hbe3 := below_via (below_al hbe2 (.cells #[.string ⟨n.toArray⟩, .int .i64 X, .int .i64 0] 69)) hb3; have k0 := (hb3.cell (p := ⟨w.heap.size, 0, none⟩) (by simp; omega)).trans ((bal.cell (p := ⟨w.heap.size, 0, none⟩) gw).trans g0); have k1 := (hb3.cell (p := ⟨w.heap.size, 1, none⟩) (by simp; omega)).trans ((bal.cell (p := ⟨w.heap.size, 1, none⟩) gw).trans g1); obtain ⟨m0, m1, m2, mf1, mf2⟩ := lb3))
            have hnw : w.heap.size ≠ w2.heap.size := by omega
            obtain ⟨lA, lB⟩ := sg2.lt
            exact ⟨⟨w2.heap.size, rfl, gw, (sg3.set (by omega) (by omega) _ _).set (by omega) (by omega) _ _, set_blk (set_blk k0 hnw) hnw, set_blk (set_blk k1 hnw) hnw, (hbe3.setCell (by show w.heap.size ≤ w2.heap.size; omega) _).setCell (by show w.heap.size ≤ w2.heap.size; omega) _, .inr ⟨G, hG0.out, rfl, fun i h1 h2 => hno2.out i (by simpa using h1) h2⟩⟩, by rw [HM.out]; show 0 < _; omega⟩
          · obtain ⟨u1, u2⟩ := Bur.upP_up ha (k := (j : Int)) (by omega) (by omega)
            have u1 : Bur.upF (Bur.upP x j).1 (j : Int) = 0 := u1
            have u3 : Bur.upA (Bur.upP x j).1 (j : Int) = (Bur.upP x ((j : Int) - 1)).1 := congrArg Prod.fst u2
            have u4 : Bur.upL (Bur.upP x j).1 (j : Int) = (j : Int) - 1 := congrArg Prod.snd u2
            rw [u1, u3, u4, ev_0] at KU
            have KU' := KU
            clear u1 u2 u3 u4 KU
            generalize (Bur.upP x j).1 = X at *
            go_wp2_with (first
              | (go_at_call 25; refine KH'.mono ?_; rintro e w2 ⟨rfl, hb2⟩; have sg2 := sg.step hb2; have e0 := (hb2.cell (p := ⟨b, 0, none⟩) (World.block_lt_of_cell? _ _ d0)).trans d0; have e1 := (hb2.cell (p := ⟨b, 1, none⟩) (World.block_lt_of_cell? _ _ d1)).trans d1; have e2 := (hb2.cell (p := ⟨b, 2, none⟩) (World.block_lt_of_cell? _ _ d2)).trans d2; have hbe2 := below_via hbe hb2; have hs2 := hbe2.size; have g0 := (hb2.cell (p := ⟨w.heap.size, 0, none⟩) (World.block_lt_of_cell? _ _ q0)).trans q0; have g1 := (hb2.cell (p := ⟨w.heap.size, 1, none⟩) (World.block_lt_of_cell? _ _ q1)).trans q1; have gw : w.heap.size < w2.heap.size := World.block_lt_of_cell? _ _ g0; have lbn := Lb.new w2 69 n X (j : Int))
              | (go_at_call 48; refine (KU' _).mono ?_; rintro e w3 ⟨rfl, hb3⟩; have lb3 := lbn.step hb3; have bal := below_al (below_self w2) (.cells #[.string ⟨n.toArray⟩, .int .i64 X, .int .i64 (j : Int)] 69); have sg3 := (sg2.step bal).step hb3; have hbe3 := below_via (below_al hbe2 (.cells #[.string ⟨n.toArray⟩, .int .i64 X, .int .i64 (j : Int)] 69)) hb3; have k0 := (hb3.cell (p := ⟨w.heap.size, 0, none⟩) (by simp; omega)).trans ((bal.cell (p := ⟨w.heap.size, 0, none⟩) gw).trans g0); have k1 := (hb3.cell (p := ⟨w.heap.size, 1, none⟩) (by simp; omega)).trans ((bal.cell (p := ⟨w.heap.size, 1, none⟩) gw).trans g1); have lb4 := lb3.put (Bur.upP x ((j : Int) - 1)).1 ((j : Int) - 1); obtain ⟨m0, m1, m2, mf1, mf2⟩ := lb3))
            have hnw : w.heap.size ≠ w2.heap.size := by omega
            obtain ⟨lA, lB⟩ := sg2.lt
            have hjj : ((j - 1 : Nat) : Int) = (j : Int) - 1 := by omega
            have lb5 := lb4
            rw [← hjj] at lb5
            refine ⟨⟨w2.heap.size, rfl, gw, (sg3.set (by omega) (by omega) _ _).set (by omega) (by omega) _ _, set_blk (set_blk k0 hnw) hnw, set_blk (set_blk k1 hnw) hnw, (hbe3.setCell (by show w.heap.size ≤ w2.heap.size; omega) _).setCell (by show w.heap.size ≤ w2.heap.size; omega) _, .inl ⟨rfl, j - 1, by omega, by rw [← hjj]; exact lb5, fun i h1 h2 => hno2.out i (by omega) h2⟩⟩, ?_⟩
            rw [HM.out]
            show (intOf ((World.cell? _ ⟨w2.heap.size, 2, none⟩).getD (.int .i64 0))).toNat + 1 < _
            rw [lb4.c2]
            show ((j : Int) - 1).toNat + 1 < _
            omega
      · have hA : Hid (caF L 3 n x = 7) := by
          have e0 : Bur.hasA L n x = false := by
            cases e : Bur.hasA L n x with
            | false => rfl
            | true =>
              obtain ⟨i, i0, i1, hi⟩ := (Bur.hasA_up L n (a := x)).1 e
              rw [hno.out i i0 i1] at hi; cases hi
          exact if_pos ⟨rfl, e0⟩
        clear hno
        go_wp2
        go_ret
        exact ⟨by rw [hA.out]; rfl, hbe⟩
  · have hA : Hid (caF L k n x = 0) := if_neg (fun q => h3 q.1)
    have h3' : (k != 3) = true := by simp [h3]
    clear hk h3
    go_enter Tryd.func35, Tryd.ntmps35
    go_wp2
    go_ret
    exact ⟨by rw [hA.out]; rfl, b2⟩
end Go.Proofs.YtdjiodikefoliaaDoor.Au

/- Package audit: what is seen in a list of pairs. -/
namespace Go.Proofs.YtdjiodikefoliaaDoor.Au
open Go.RowKit Go.Maps Pa

theorem sgNil (w : World) (n : Nat) (hn : n = w.heap.size) : ((w.alloc (.map #[] 0)).alloc (.map #[] 0)).ownsMap Tryd.prog 9 (unitElem (H := Unit)) n 0 (nD []) ∧ ((w.alloc (.map #[] 0)).alloc (.map #[] 0)).ownsMap Tryd.prog 69 (unitElem (H := Unit)) (n + 1) 0 (lD []) := by
  subst hn
  refine ⟨(World.ownsMap_made w _ _ _).alloc _, ?_⟩
  have := World.ownsMap_made (w.alloc (.map #[] 0)) Tryd.prog 69 (unitElem (H := Unit))
  rwa [World.size_alloc] at this
set_option maxRecDepth 100000 in
set_option maxHeartbeats 4000000 in
theorem auLook (L : List Vs.Pr) (p : Option Addr) (cap : Nat) (w : World) (hp : PrAt w p L) (hl : L.length ≤ 1000) (hk : ∀ x ∈ L, x.1.size < 4294967281) (hm : MaxL w) :
    Calls Tryd.prog 16 #[.slice p L.length cap] w fun e w' => ∃ a b, e = .returned (sgV a b) ∧ Sg w' a b L ∧ Below w.heap.size w w' := by
  have hmm := @run_makeMap Tryd.prog
  obtain ⟨n0, hn0⟩ : ∃ n0, n0 = w.heap.size := ⟨_, rfl⟩
  obtain ⟨W1, hW1⟩ : ∃ W1, W1 = (((w.alloc (.cells #[.map none, .map none] 55)).alloc (.map #[] 0)).alloc (.map #[] 0)).alloc (.cells #[.map (some (n0 + 1)), .map (some (n0 + 2))] 55) := ⟨_, rfl⟩
  have b1 : Below n0 w W1 := by rw [hW1, hn0]; exact below_al (below_al (below_al (below_al (below_self w) _) _) _) _
  have r0 : W1.cell? ⟨n0, 0, none⟩ = some (.map none) := by rw [hW1, hn0]; go_simp
  have r1 : W1.cell? ⟨n0, 1, none⟩ = some (.map none) := by rw [hW1, hn0]; go_simp
  have f0 : W1.frozen? ⟨n0, 0, none⟩ = false := by rw [hW1, hn0]; go_simp
  have f1 : W1.frozen? ⟨n0, 1, none⟩ = false := by rw [hW1, hn0]; go_simp
  have s0 : W1.cell? ⟨n0 + 3, 0, none⟩ = some (.map (some (n0 + 1))) := by rw [hW1, hn0]; go_simp
  have s1 : W1.cell? ⟨n0 + 3, 1, none⟩ = some (.map (some (n0 + 2))) := by rw [hW1, hn0]; go_simp
  have hsz : W1.heap.size = n0 + 4 := by rw [hW1, hn0]; simp
  obtain ⟨g1, g2⟩ := sgNil (w.alloc (.cells #[.map none, .map none] 55)) (n0 + 1) (by rw [hn0]; simp)
  have o1 : W1.ownsMap Tryd.prog 9 (unitElem (H := Unit)) (n0 + 1) 0 (nD []) := by rw [hW1]; exact g1.alloc _
  have o2 : W1.ownsMap Tryd.prog 69 (unitElem (H := Unit)) (n0 + 2) 0 (lD []) := by rw [hW1]; exact g2.alloc _
  clear g1 g2
  have ST : Hid (W1 = _) := hW1
  have HN : Hid (n0 = w.heap.size) := hn0
  have HZ : Hid (W1.heap.size = n0 + 4) := hsz
  have CB : Hid _ := And.intro r0 (And.intro r1 (And.intro f0 (And.intro f1 (And.intro s0 s1))))
  clear hsz r0 r1 f0 f1 s0 s1
  rw [hn0] at hW1
  subst hn0
  go_enter Tryd.func16, Tryd.ntmps16
  go_wp2
  rw [← hW1]
  clear hW1
  go_loopw [13] (fun i wr => ∃ k : Nat, k ≤ L.length ∧ i = .int .i64 k ∧ wr.ownsMap Tryd.prog 9 (unitElem (H := Unit)) (w.heap.size + 1) k (nD (L.take k)) ∧ wr.ownsMap Tryd.prog 69 (unitElem (H := Unit)) (w.heap.size + 2) k (lD (L.take k)) ∧ Hid (wr.heap[w.heap.size]? = W1.heap[w.heap.size]? ∧ wr.heap[w.heap.size + 3]? = W1.heap[w.heap.size + 3]? ∧ w.heap.size + 4 ≤ wr.heap.size) ∧ Below w.heap.size w wr) (fun i _ => L.length - (intOf i).toNat)
  case atStart => exact ⟨0, by omega, rfl, o1, o2, ⟨rfl, rfl, by rw [HZ.out]; exact Nat.le_refl _⟩, b1⟩
  case round =>
    obtain ⟨k, hkl, rfl, m1, m2, hK, hb⟩ := hrel
    clear o1 o2 b1
    obtain ⟨hB0, hB3, hS⟩ := hK.out
    have s0 : wr.cell? ⟨w.heap.size + 3, 0, none⟩ = some (.map (some (w.heap.size + 1))) := (World.cell?_of_block hB3).trans CB.out.2.2.2.2.1
    have s1 : wr.cell? ⟨w.heap.size + 3, 1, none⟩ = some (.map (some (w.heap.size + 2))) := (World.cell?_of_block hB3).trans CB.out.2.2.2.2.2
    by_cases hlt : k < L.length
    · have hlt' : (k : Int) < (L.length : Int) := by omega
      obtain ⟨x, hx⟩ : ∃ x, L[k]? = some x := ⟨L[k], List.getElem?_eq_getElem hlt⟩
      obtain ⟨b, off, rfl, hbl, hc⟩ := (hp.step hb) (by omega)
      obtain ⟨d0, d1⟩ := hc k x hx
      have hkx := hk x (List.mem_of_getElem? hx)
      have tn := Bur.nts_take L k x hx
      have tl := Bur.lts_take L k x hx
      obtain ⟨W, hW⟩ : ∃ W, W = wr.alloc (.cells #[.string x.1, .string x.2] 47) := ⟨_, rfl⟩
      have bW : Below wr.heap.size wr W := by rw [hW]; exact below_al (below_self _) _
      have KR := auRead x.1.data.toList W (by have : x.1.data.toList.length = x.1.size := Array.length_toList
                                              omega) (hm.step (below_via hb bW))
      rw [show (⟨x.1.data.toList.toArray⟩ : ByteArray) = x.1 from by cases x.1; simp] at KR
      have KR' : Calls Tryd.prog 32 #[.string x.1] W fun e w' => e = .returned (.tuple #[enA (Bur.ek x), enE (Bur.ek x)]) ∧ Below W.heap.size W w' := KR
      clear KR
      -- what stands behind read
      have go1 : ∀ w3 : World, Below W.heap.size W w3 → Below wr.heap.size wr w3 := fun w3 h3 => below_via bW h3
      have hSW : wr.heap.size < W.heap.size := by rw [hW]; simp
      cases hE : Bur.ek x with
      | none =>
        rw [hE] at KR'
        have t1 : Bur.nt1 x = none := by unfold Bur.nt1; rw [hE]
        have t2 : Bur.lt1 x = none := by unfold Bur.lt1; rw [hE]
        rw [t1, Option.toList_none, List.append_nil] at tn
        rw [t2, Option.toList_none, List.append_nil] at tl
        have KR2 : Calls Tryd.prog 32 #[.string x.1] W fun e w' => e = .returned (.tuple #[.agg #[.int .i64 0, .string ⟨#[]⟩, .int .i64 0, .int .i64 0], errN 5]) ∧ Below W.heap.size W w' := KR'
        have T1 : Hid _ := And.intro tn tl
        clear KR' tn tl t1 t2 hE hc hx
        go_wp2_with (go_at_call 32; rw [← hW]; refine KR2.mono ?_; clear KR2; rintro e w3 ⟨rfl, hb3⟩)
        have hb4 := below_al (go1 w3 hb3) (.cells #[.int .i64 0, .string ⟨#[]⟩, .int .i64 0, .int .i64 0] 79)
        exact ⟨⟨k + 1, by omega, by go_num, by unfold nD; rw [T1.out.1]; exact (Ha.map_below m1 hb4).mono (Nat.le_succ _), by unfold lD; rw [T1.out.2]; exact (Ha.map_below m2 hb4).mono (Nat.le_succ _), ⟨(hb4.block _ (by omega)).trans hB0, (hb4.block _ (by omega)).trans hB3, by have := hb4.size; omega⟩, below_via hb hb4⟩, by simp [intOf]; omega⟩
      | some e =>
        obtain ⟨kd, n, q⟩ := e
        rw [hE] at KR'
        have hN := Bur.isN_ok (Bur.en_isN hE)
        have hn8 : n.length ≤ 8 := hN.2.1
        have KR2 : Calls Tryd.prog 32 #[.string x.1] W fun e w' => e = .returned (.tuple #[.agg #[.int .i64 kd, .string ⟨n.toArray⟩, .int .i64 q.1, .int .i64 q.2], .nilIface]) ∧ Below W.heap.size W w' := KR'
        clear KR'
        by_cases c1 : kd = 1
        · subst c1
          have t1 : Bur.nt1 x = some n := Bur.nt1_iff.2 ⟨q, hE⟩
          have t2 : Bur.lt1 x = none := by unfold Bur.lt1; rw [hE]; rfl
          rw [t1, Option.toList_some] at tn
          rw [t2, Option.toList_none, List.append_nil] at tl
          have T1 : Hid _ := And.intro tn tl
          have hkey := keyS (n := n) (by unfold maxLen; omega)
          clear tn tl t1 t2 hE hc hx
          go_wp2_with (first
            | (go_at_call 32; rw [← hW]; refine KR2.mono ?_; clear KR2; rintro e w3 ⟨rfl, hb3⟩; have hb4 := below_al (go1 w3 hb3) (.cells #[.int .i64 1, .string ⟨n.toArray⟩, .int .i64 q.1, .int .i64 q.2] 79); have s04 := (hb4.cell (p := ⟨w.heap.size + 3, 0, none⟩) (by show w.heap.size + 3 < _; omega)).trans s0; have m14 := Ha.map_below m1 hb4; have m24 := Ha.map_below m2 hb4; have hs3 := (go1 w3 hb3).size)
            | (at_mapUpdate; refine wpList_mapUpdate_own _ rfl _ _ _ 52 rfl 9 82 keyedS Tryd.underlying52 (unitElem (H := Unit)) (w.heap.size + 1) k _ rfl m14 (by unfold maxLen; omega) _ _ _ rfl rfl hkey _ [] unitElem_mk ?_; intro w5 hown1 hgrow1)
            | go_in)
          exact ⟨⟨k + 1, by omega, by go_num, by unfold nD; rw [T1.out.1, List.map_append, List.map_singleton, setOf_snoc]; exact hown1, by unfold lD; rw [T1.out.2]; exact (m24.kept hgrow1 (by simp)).mono (Nat.le_succ _), ⟨(hgrow1.block _ (by have := hb4.size; omega) (by simp)).trans ((hb4.block _ (by omega)).trans hB0), (hgrow1.block _ (by have := hb4.size; omega) (by simp)).trans ((hb4.block _ (by omega)).trans hB3), by have := hb4.size; have := hgrow1.size; omega⟩, (below_via hb hb4).grown hgrow1 (by have := hb4.size; omega) (fun j hj => by cases hj; omega)⟩, by simp [intOf]; omega⟩
        · by_cases c2 : kd = 2
          · subst c2
            have t1 : Bur.nt1 x = none := by unfold Bur.nt1; rw [hE]; rfl
            have t2 : Bur.lt1 x = some (n, q) := Bur.lt1_iff.2 hE
            rw [t1, Option.toList_none, List.append_nil] at tn
            rw [t2, Option.toList_some] at tl
            have T1 : Hid _ := And.intro tn tl
            have hq := Bur.fault_ok (Bur.pkR_fault (Bur.en_two hE).1)
            have hkey : keyOf Tryd.prog 69 (.agg #[.string ⟨n.toArray⟩, .int .i64 q.1, .int .i64 q.2]) = some (ltK (n, q)) := keyL ⟨by show n.length ≤ _; unfold maxLen; omega, ⟨by show _ ≤ q.1; omega, by show q.1 ≤ _; omega⟩, ⟨by show _ ≤ q.2; omega, by show q.2 ≤ _; omega⟩⟩
            clear tn tl t1 t2 hE hc hx hq c1
            go_wp2_with (first
              | (go_at_call 32; rw [← hW]; refine KR2.mono ?_; clear KR2; rintro e w3 ⟨rfl, hb3⟩; have hb4 := below_al (go1 w3 hb3) (.cells #[.int .i64 2, .string ⟨n.toArray⟩, .int .i64 q.1, .int .i64 q.2] 79); have s14 := (hb4.cell (p := ⟨w.heap.size + 3, 1, none⟩) (by show w.heap.size + 3 < _; omega)).trans s1; have m14 := Ha.map_below m1 hb4; have m24 := Ha.map_below m2 hb4; have hs3 := (go1 w3 hb3).size)
              | (at_mapUpdate; refine wpList_mapUpdate_own _ rfl _ _ _ 53 rfl 69 82 keyedL Tryd.underlying53 (unitElem (H := Unit)) (w.heap.size + 2) k _ rfl m24 (by unfold maxLen; omega) _ _ _ rfl rfl hkey _ [] unitElem_mk ?_; intro w5 hown1 hgrow1)
              | go_in)
            exact ⟨⟨k + 1, by omega, by go_num, by unfold nD; rw [T1.out.1]; exact (m14.kept hgrow1 (by simp)).mono (Nat.le_succ _), by unfold lD; rw [T1.out.2, List.map_append, List.map_singleton, setOf_snoc]; exact hown1, ⟨(hgrow1.block _ (by have := hb4.size; omega) (by simp)).trans ((hb4.block _ (by omega)).trans hB0), (hgrow1.block _ (by have := hb4.size; omega) (by simp)).trans ((hb4.block _ (by omega)).trans hB3), by have := hb4.size; have := hgrow1.size; omega⟩, (below_via hb hb4).grown hgrow1 (by have := hb4.size; omega) (fun j hj => by cases hj; omega)⟩, by simp [intOf]; omega⟩
          · have t1 : Bur.nt1 x = none := by unfold Bur.nt1; rw [hE]; exact if_neg c1
            have t2 : Bur.lt1 x = none := by unfold Bur.lt1; rw [hE]; exact if_neg c2
            rw [t1, Option.toList_none, List.append_nil] at tn
            rw [t2, Option.toList_none, List.append_nil] at tl
            have T1 : Hid _ := And.intro tn tl
            have c1' : (kd == 1) = false := beq_eq_false_iff_ne.2 c1
            have c2' : (kd == 2) = false := beq_eq_false_iff_ne.2 c2
            clear tn tl t1 t2 hE hc hx
            go_wp2_with (go_at_call 32; rw [← hW]; refine KR2.mono ?_; clear KR2; rintro e w3 ⟨rfl, hb3⟩)
            have hb4 := below_al (go1 w3 hb3) (.cells #[.int .i64 kd, .string ⟨n.toArray⟩, .int .i64 q.1, .int .i64 q.2] 79)
            exact ⟨⟨k + 1, by omega, by go_num, by unfold nD; rw [T1.out.1]; exact (Ha.map_below m1 hb4).mono (Nat.le_succ _), by unfold lD; rw [T1.out.2]; exact (Ha.map_below m2 hb4).mono (Nat.le_succ _), ⟨(hb4.block _ (by omega)).trans hB0, (hb4.block _ (by omega)).trans hB3, by have := hb4.size; omega⟩, below_via hb hb4⟩, by simp [intOf]; omega⟩
    · have hlt' : ¬ (k : Int) < (L.length : Int) := by omega
      have hE : k = L.length := by omega
      rw [hE, List.take_length] at m1 m2
      have r0 : wr.cell? ⟨w.heap.size, 0, none⟩ = some (.map none) := (World.cell?_of_block hB0).trans CB.out.1
      have r1 : wr.cell? ⟨w.heap.size, 1, none⟩ = some (.map none) := (World.cell?_of_block hB0).trans CB.out.2.1
      have f0 : wr.frozen? ⟨w.heap.size, 0, none⟩ = false := (World.frozen?_of_block hB0).trans CB.out.2.2.1
      have f1 : wr.frozen? ⟨w.heap.size, 1, none⟩ = false := (World.frozen?_of_block hB0).trans CB.out.2.2.2.1
      have sg : Sg wr (w.heap.size + 1) (w.heap.size + 2) L := ⟨m1, m2⟩
      have SG : Hid _ := (sg.set (b := w.heap.size) (by omega) (by omega) 0 (.map (some (w.heap.size + 1)))).set (b := w.heap.size) (by omega) (by omega) 1 (.map (some (w.heap.size + 2)))
      clear m1 m2 sg hE hB0 hB3 hK
      go_wp2
      exact bodyPost_ret (v := sgV (w.heap.size + 1) (w.heap.size + 2)) (by simp [results, Tryd.results16, go_sem, sgV, two_one r0 r1]) rfl ⟨_, _, rfl, SG.out, (hb.setCell (Nat.le_refl _) _).setCell (Nat.le_refl _) _⟩
end Go.Proofs.YtdjiodikefoliaaDoor.Au
