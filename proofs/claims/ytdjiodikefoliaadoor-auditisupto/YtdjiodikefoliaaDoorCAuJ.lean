/- The reference: PrefixesOf, PlacedIn. -/
import Derived.Test.YtdjiodikefoliaaDoorCAuI
import Derived.Test.YtdjiodikefoliaaDoorCPkD
import Derived.Test.YtdjiodikefoliaaDoorCTrRefA
namespace Go.Proofs.YtdjiodikefoliaaDoor.Au
open Go.RowKit Go.Maps Pa
open Ta (SpAt spV spAt_own info_pfx own_below)
open Ha (InAt inV infoInt inAt_own)

/-- A key's kind, as the reference tells it: its parts, and what they are of what the program reads. -/
theorem refKind1 (x : Vs.Pr) (hx : x.1.size < 4294967281) : ∃ (K : Int) (m : List UInt8) (q1 q2 a : Int), (∀ W : World, Calls Tryd.prog 13 #[.string x.1] W fun e w' => e = .returned (.tuple #[.int .i64 K, .string ⟨m.toArray⟩, pfx q1 q2, .int .i64 a]) ∧ Below W.heap.size W w') ∧
    (K = 0 ∨ K = 1 ∨ K = 2 ∨ K = 3) ∧ (K = 0 ↔ Bur.ek x = none) ∧ (K ≠ 0 → ∃ q, Bur.ek x = some (K, m, q) ∧ (K = 2 → q = (q1, q2) ∧ Bur.fault q1 q2 = 0) ∧ (K = 3 → q = (a, 32) ∧ Bur.isA a = true)) := by
  have hK := fun W => refKind x.1 W hx
  rw [Bur.kd_en] at hK
  have he : Bur.ek x = Bur.enK x.1.data.toList := rfl
  rw [he]
  cases hE : Bur.enK x.1.data.toList with
  | none =>
    rw [hE] at hK
    exact ⟨0, [], 0, 0, 0, hK, .inl rfl, ⟨fun _ => rfl, fun _ => rfl⟩, fun h => absurd rfl h⟩
  | some e =>
    obtain ⟨K, m, q⟩ := e
    rw [hE] at hK
    have hk := Bur.en_kind hE
    have hk : K = 1 ∨ K = 2 ∨ K = 3 := hk
    by_cases h3 : K = 3
    · subst h3
      obtain ⟨a, ha, _, rfl⟩ := Bur.en_three hE
      exact ⟨3, m, 0, 0, a, hK, by omega, ⟨fun h => by omega, fun h => by cases h⟩, fun _ => ⟨(a, 32), rfl, fun h => by omega, fun _ => ⟨rfl, Bur.raK_isA ha⟩⟩⟩
    · have e2 : Bur.kdE (some (K, m, q)) = (K, m, q, 0) := if_neg h3
      rw [e2] at hK
      refine ⟨K, m, q.1, q.2, 0, hK, by omega, ⟨fun h => by omega, fun h => by cases h⟩, fun _ => ⟨q, rfl, fun h => ⟨rfl, ?_⟩, fun h => absurd h h3⟩⟩
      subst h
      exact Bur.pkR_fault (Bur.en_two hE).1
theorem hasN_take (L : List Vs.Pr) (n : List UInt8) (k : Nat) (x : Vs.Pr) (h : L[k]? = some x) : Bur.hasN (L.take (k + 1)) n = (Bur.hasN (L.take k) n || Bur.isE 1 n (fun _ => true) (Bur.ek x)) := by
  unfold Bur.hasN
  rw [List.take_add_one, h, Option.toList_some, List.any_append]; simp
theorem hasA_take (L : List Vs.Pr) (n : List UInt8) (a : Int) (k : Nat) (x : Vs.Pr) (h : L[k]? = some x) : Bur.hasA (L.take (k + 1)) n a = (Bur.hasA (L.take k) n a || Bur.isE 2 n (fun q => Bur.hs q a) (Bur.ek x)) := by
  unfold Bur.hasA
  rw [List.take_add_one, h, Option.toList_some, List.any_append]; simp
set_option maxRecDepth 100000 in
set_option maxHeartbeats 8000000 in
theorem refPrefixes (L : List Vs.Pr) (p : Option Addr) (cap : Nat) (n : List UInt8) (w : World) (hp : PrAt w p L) (hl : L.length ≤ 1000) (hk : ∀ x ∈ L, x.1.size < 4294967281) :
    Calls Tryd.prog 7 #[.slice p L.length cap, .string ⟨n.toArray⟩] w fun e w' => ∃ v, e = .returned (.tuple #[v, .bool (Bur.hasN L n)]) ∧ w'.ownsRow w.heap.size 24 2 v (Bur.pck L 2 n).length (spV (Bur.pck L 2 n)) ∧ Below w.heap.size w w' := by
  go_enter Tryd.func7, Tryd.ntmps7
  go_wp2
  go_loopw [6, 7, 8] (fun v t a wr => ∃ (k : Nat) (r : List Bur.Sp) (b : Bool), k ≤ L.length ∧ a = .int .i64 k ∧ t = .bool b ∧ r.length ≤ k ∧ Hid (r = Bur.pck (L.take k) 2 n ∧ b = Bur.hasN (L.take k) n) ∧ wr.ownsRow w.heap.size 24 2 v r.length (spV r) ∧ Below w.heap.size w wr) (fun _ _ a _ => L.length - (intOf a).toNat)
  case atStart => exact ⟨0, [], false, by omega, rfl, rfl, by simp, ⟨rfl, rfl⟩, World.ownsRow_nil _ _ _ _, below_self _⟩
  case round =>
    obtain ⟨k, r, b, hkl, rfl, rfl, hrk, hM, hrow, hb⟩ := hrel
    by_cases hlt : k < L.length
    · have hlt' : (k : Int) < (L.length : Int) := by omega
      obtain ⟨x, hx⟩ : ∃ x, L[k]? = some x := ⟨L[k], List.getElem?_eq_getElem hlt⟩
      obtain ⟨B, off, rfl, hbl, hc⟩ := (hp.step hb) (by omega)
      obtain ⟨d0, d1⟩ := hc k x hx
      have hst := Bur.pck_take L 2 n k x hx
      have hnt := hasN_take L n k x hx
      obtain ⟨K, m, q1, q2, a, KK, hKr, hK0, hKs⟩ := refKind1 x (hk x (List.mem_of_getElem? hx))
      have KR := KK wr
      rw [← hM.out.1] at hst
      rw [← hM.out.2] at hnt
      have sz0 := hb.size
      clear hM hc KK
      by_cases c2 : K = 2 ∧ m = n
      · obtain ⟨rfl, rfl⟩ := c2
        obtain ⟨q, hE, hq2, _⟩ := hKs (by decide)
        obtain ⟨rfl, _⟩ := hq2 rfl
        rw [Bur.pk1_iff.2 hE, Option.toList_some] at hst
        rw [show Bur.isE 1 m (fun _ => true) (Bur.ek x) = false from by rw [hE]; simp [Bur.isE], Bool.or_false] at hnt
        have hM2 : Hid (r ++ [(q1, q2)] = Bur.pck (L.take (k + 1)) 2 m ∧ b = Bur.hasN (L.take (k + 1)) m) := ⟨hst.symm, hnt.symm⟩
        clear hst hnt hE hK0 hKs hKr hq2 hx
        cases b
        all_goals
          go_wp2_with (first
            | (go_at_call 13; refine KR.mono ?_; clear KR; rintro e w3 ⟨rfl, hb3⟩; have hb4 := below_al hb3 (.cells #[.int .i64 q1, .int .i64 q2] 24); have row4 := own_below hrow hb4; have bb4 := below_via hb hb4; have hs4 := bb4.size; have hs5 : w.heap.size ≤ w3.heap.size := (below_via hb hb3).size)
            | (at_builtin; refine wpList_append_one 33 24 2 16 _ Tryd.underlying33 info_pfx rfl (by decide) (by decide) rfl _ _ rfl w.heap.size _ r.length (spV r) rfl (row4.alloc _) (by simp; omega) _ [.int .i64 q1, .int .i64 q2] rfl rfl (fun j u hj => by have := sp_new (w3.alloc (.cells #[.int .i64 q1, .int .i64 q2] 24)) q1 q2 24 j u hj; simpa using this) (fun u hu => by simp at hu; rcases hu with rfl | rfl <;> rfl) (by omega) ?_; intro v5 w5 own5 hg5; have hb5 : Below w.heap.size w w5 := (bb4.alloc (by simp; omega) _).grown hg5 (by simp; omega) (fun j hj => (row4.lt j hj).1)))
          have own6 : w5.ownsRow w.heap.size 24 2 v5 (r ++ [(q1, q2)]).length (spV (r ++ [(q1, q2)])) := by
            rw [List.length_append, show spV (r ++ [(q1, q2)]) = spV r ++ [.int .i64 q1, .int .i64 q2] from by simp [spV]]
            exact own5
          exact ⟨⟨k + 1, r ++ [(q1, q2)], _, by omega, by go_num, rfl, by simp; omega, hM2, own6, hb5⟩, by simp [intOf]; omega⟩
      · have t1 : Bur.pk1 2 n x = none := by
          cases e : Bur.pk1 2 n x with
          | none => rfl
          | some q =>
            have hE := Bur.pk1_iff.1 e
            by_cases hK : K = 0
            · rw [hK0.1 hK] at hE; cases hE
            · obtain ⟨q', hE', _⟩ := hKs hK
              rw [hE'] at hE
              simp at hE
              exact absurd ⟨hE.1, hE.2.1⟩ c2
        rw [t1, Option.toList_none, List.append_nil] at hst
        have hE1 : Bur.isE 1 n (fun _ => true) (Bur.ek x) = (decide (K = 1) && decide (m = n)) := by
          by_cases hK : K = 0
          · rw [hK0.1 hK, hK]; simp [Bur.isE]
          · obtain ⟨q', hE', _⟩ := hKs hK
            rw [hE']; simp [Bur.isE]
        rw [hE1] at hnt
        have hM2 : Hid (r = Bur.pck (L.take (k + 1)) 2 n ∧ (b || (decide (K = 1) && decide (m = n))) = Bur.hasN (L.take (k + 1)) n) := ⟨hst.symm, hnt.symm⟩
        clear hst hnt hE1 t1 hK0 hKs hx
        by_cases c3 : K = 1
        · subst c3
          by_cases c4 : m = n
          · subst c4
            have hM3 : Hid (r = Bur.pck (L.take (k + 1)) 2 m ∧ true = Bur.hasN (L.take (k + 1)) m) := ⟨hM2.out.1, by rw [← hM2.out.2]; simp⟩
            clear hM2
            cases b
            all_goals
              go_wp2_with (go_at_call 13; refine KR.mono ?_; clear KR; rintro e w3 ⟨rfl, hb3⟩; have hb4 := below_al hb3 (.cells #[.int .i64 q1, .int .i64 q2] 24); have row4 := own_below hrow hb4; have bb4 := below_via hb hb4)
              exact ⟨⟨k + 1, r, true, by omega, by go_num, rfl, by omega, hM3, row4, bb4⟩, by simp [intOf]; omega⟩
          · have c4' : (m == n) = false := beq_eq_false_iff_ne.2 c4
            have hM3 : Hid (r = Bur.pck (L.take (k + 1)) 2 n ∧ b = Bur.hasN (L.take (k + 1)) n) := ⟨hM2.out.1, by rw [← hM2.out.2]; simp [c4]⟩
            clear hM2
            cases b
            all_goals
              go_wp2_with (go_at_call 13; refine KR.mono ?_; clear KR; rintro e w3 ⟨rfl, hb3⟩; have hb4 := below_al hb3 (.cells #[.int .i64 q1, .int .i64 q2] 24); have row4 := own_below hrow hb4; have bb4 := below_via hb hb4)
              exact ⟨⟨k + 1, r, _, by omega, by go_num, rfl, by omega, hM3, row4, bb4⟩, by simp [intOf]; omega⟩
        · have c3' : (K == 1) = false := beq_eq_false_iff_ne.2 c3
          have hM3 : Hid (r = Bur.pck (L.take (k + 1)) 2 n ∧ b = Bur.hasN (L.take (k + 1)) n) := ⟨hM2.out.1, by rw [← hM2.out.2]; simp [c3]⟩
          clear hM2
          by_cases c5 : K = 2
          · have c4 : m ≠ n := fun h => c2 ⟨c5, h⟩
            have c4' : (m == n) = false := beq_eq_false_iff_ne.2 c4
            subst c5
            clear c2
            cases b
            all_goals
              go_wp2_with (go_at_call 13; refine KR.mono ?_; clear KR; rintro e w3 ⟨rfl, hb3⟩; have hb4 := below_al hb3 (.cells #[.int .i64 q1, .int .i64 q2] 24); have row4 := own_below hrow hb4; have bb4 := below_via hb hb4)
              exact ⟨⟨k + 1, r, _, by omega, by go_num, rfl, by omega, hM3, row4, bb4⟩, by simp [intOf]; omega⟩
          · have c5' : (K == 2) = false := beq_eq_false_iff_ne.2 c5
            clear c2
            cases b
            all_goals
              go_wp2_with (go_at_call 13; refine KR.mono ?_; clear KR; rintro e w3 ⟨rfl, hb3⟩; have hb4 := below_al hb3 (.cells #[.int .i64 q1, .int .i64 q2] 24); have row4 := own_below hrow hb4; have bb4 := below_via hb hb4)
              exact ⟨⟨k + 1, r, _, by omega, by go_num, rfl, by omega, hM3, row4, bb4⟩, by simp [intOf]; omega⟩
    · have hlt' : ¬ (k : Int) < (L.length : Int) := by omega
      have hE : Hid (r = Bur.pck L 2 n ∧ b = Bur.hasN L n) := by
        have := hM.out
        rw [List.take_of_length_le (by omega)] at this
        exact this
      clear hM
      go_wp2
      go_ret2
      exact ⟨_, by rw [← hE.out.2]; rfl, by rw [← hE.out.1]; exact hrow, hb⟩
end Go.Proofs.YtdjiodikefoliaaDoor.Au
