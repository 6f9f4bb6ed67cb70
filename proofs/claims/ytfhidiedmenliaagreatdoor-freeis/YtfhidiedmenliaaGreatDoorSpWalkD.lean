/- The contract of gather, for each of the two questions that it is handed. -/
import Derived.Test.YtfhidiedmenliaaGreatDoorSpWalkB
namespace Go.Proofs.YtfhidiedmenliaaGreatDoor
open Go.RowKit

theorem info_span : (Tryz.prog.info? 53).map (fun i => (i.zero, i.size, i.bytes)) = some (some (.agg #[.int .i64 0, .int .i64 0]), 2, 16) := by kernel_rfl
theorem info_int : (Tryz.prog.info? 3).map (fun i => (i.zero, i.size, i.bytes)) = some (some (.int .i64 0), 1, 8) := by kernel_rfl
theorem own_below {w w' : World} {B e size n : Nat} {v : Value} {xs : List Value} (h : w.ownsRow B e size v n xs) (hb : Below w.heap.size w w') : w'.ownsRow B e size v n xs := by
  refine ⟨h.1, ?_⟩
  rcases h.2 with hn | ⟨g, cap, cur, rfl, h1, hg, rest⟩
  · exact .inl hn
  · exact .inr ⟨g, cap, cur, rfl, h1, (hb.block g (Array.getElem?_eq_some_iff.1 hg).1).trans hg, rest⟩
/-- Spans as cells. -/
def spV (l : List Bur.Sp) : List Value := l.flatMap fun s => [.int .i64 s.1, .int .i64 s.2]
theorem spV_len : ∀ l : List Bur.Sp, (spV l).length = l.length * 2
  | [] => rfl
  | s :: r => by show ((spV r).length + 1 + 1) = _; rw [spV_len r, List.length_cons]; omega
theorem spV_app (l m : List Bur.Sp) : spV (l ++ m) = spV l ++ spV m := by simp [spV]
theorem spV_at : ∀ (l : List Bur.Sp) (i : Nat), i < l.length → (spV l)[i * 2]? = some (.int .i64 (lo l i)) ∧ (spV l)[i * 2 + 1]? = some (.int .i64 (hi l i))
  | s :: r, 0, _ => ⟨rfl, rfl⟩
  | s :: r, i + 1, h => by
    have := spV_at r i (by simpa using h)
    rw [show (i + 1) * 2 = i * 2 + 2 from by omega, show i * 2 + 2 + 1 = i * 2 + 1 + 2 from by omega]
    exact this
/-- What a row of the call's own holds can be read. -/
theorem spAt_own {w : World} {B n cap : Nat} {p : Option Addr} {l : List Bur.Sp} (h : w.ownsRow B 53 2 (.slice p n cap) l.length (spV l)) : n = l.length ∧ SpAt w p l := by
  rcases h.2 with ⟨h0, h1⟩ | ⟨g, cap', cur, h0, _, hg, _, _, _, _⟩
  · cases h0; exact ⟨h1.symm, fun hp => by omega⟩
  · cases h0
    refine ⟨rfl, fun _ => ⟨g, 0, rfl, (Array.getElem?_eq_some_iff.1 hg).1, fun i hi => ?_⟩⟩
    have := spV_at l i hi
    rw [Nat.zero_add, h.cellAt (i * 2) (by omega), h.cellAt (i * 2 + 1) (by omega)]
    exact this
/-- Numbers lie at the address of a slice, to be read. -/
def InAt (w : World) (p : Option Addr) (zs : List Int) : Prop :=
  0 < zs.length → ∃ b off, p = some ⟨b, off, none⟩ ∧ b < w.heap.size ∧ ∀ i, i < zs.length → w.cell? ⟨b, off + i, none⟩ = some (.int .i64 (zs.getD i 0))
theorem InAt.step {w w' : World} {p : Option Addr} {zs : List Int} (h : InAt w p zs) (hb : Below w.heap.size w w') : InAt w' p zs := by
  intro hl
  obtain ⟨b, off, rfl, hlt, hc⟩ := h hl
  refine ⟨b, off, rfl, Nat.lt_of_lt_of_le hlt hb.size, fun i hi => ?_⟩
  rw [hb.cell (p := ⟨b, off + i, none⟩) hlt]
  exact hc i hi
theorem drop_int {zs : List Int} {k : Nat} (h : k < zs.length) : zs.drop k = zs.getD k 0 :: zs.drop (k + 1) := by
  rw [List.drop_eq_getElem_cons h]
  simp only [List.getD, List.getElem?_eq_getElem h, Option.getD_some]
/-- The row while it is gathered: what is closed, and what is open. -/
def rowOf (done : List Bur.Sp) : Option Int → List Bur.Sp
  | none => done
  | some a => done ++ [(a, 0)]
theorem spV_close (done : List Bur.Sp) (a e : Int) (k : Nat) (hk : k = done.length) : (spV (done ++ [(a, 0)])).set (k * 2 + 1) (.int .i64 e) = spV (done ++ [(a, e)]) := by
  subst hk
  rw [spV_app, spV_app]
  show (spV done ++ [Value.int .i64 a, Value.int .i64 0]).set (done.length * 2 + 1) (.int .i64 e) = spV done ++ [Value.int .i64 a, Value.int .i64 e]
  rw [List.set_append_right _ _ (by rw [spV_len]; omega), spV_len, show done.length * 2 + 1 - done.length * 2 = 1 from by omega]
  rfl



set_option maxHeartbeats 4000000 in
/-- The set is made along the edges. -/
theorem gather2 (P : Int → Bool) (q : Option Addr) (cap : Nat) (zs : List Int) (c1 c2 c3 : Addr) (w : World) (hz : zs.length ≤ 1000000) (hq : InAt w q zs) (hB : ∀ z ∈ zs, 0 ≤ z ∧ z ≤ 4294967296)
    (hF : ∀ (x : Int) (w1 : World), Below w.heap.size w w1 → Calls Tryz.prog 55 #[.int .i64 x, .pointer (some c1), .pointer (some c2), .pointer (some c3)] w1 fun e w' => e = .returned (.bool (P x)) ∧ Below w1.heap.size w1 w') :
    Calls Tryz.prog 53 #[.slice q zs.length cap, .func (.func 55) #[] #[.pointer (some c1), .pointer (some c2), .pointer (some c3)]] w fun e w' => ∃ (p' : Option Addr) (cap' : Nat), e = .returned (.slice p' (Bur.gt P none zs).length cap') ∧ SpAt w' p' (Bur.gt P none zs) ∧ Below w.heap.size w w' := by
  obtain ⟨i0, hi, hz0, hz1, hz2⟩ := info_parts info_span
  go_enter Tryz.func53, Tryz.ntmps53
  go_wp2
  go_loopw [5, 6, 12] (fun v o i wr => ∃ (k : Nat) (done : List Bur.Sp) (cur : Option Int), k ≤ zs.length ∧ i = .int .i64 k ∧ o = .bool cur.isSome ∧ (rowOf done cur).length ≤ k ∧ Hid (Bur.gt P none zs = done ++ Bur.gt P cur (zs.drop k)) ∧ wr.ownsRow w.heap.size 53 2 v (rowOf done cur).length (spV (rowOf done cur)) ∧ Below w.heap.size w wr) (fun _ _ i _ => zs.length - (intOf i).toNat)
  case atStart => exact ⟨0, [], none, by omega, rfl, rfl, by simp [rowOf], rfl, World.ownsRow_nil _ _ _ _, below_self _⟩
  case round =>
    obtain ⟨k, done, cur, hk, rfl, rfl, hrl, R, hown, hb⟩ := hrel
    have hsz := hb.size
    by_cases hlt : k < zs.length
    · have hlt' : (k : Int) < (zs.length : Int) := by omega
      obtain ⟨b, off, rfl, hbl, hc⟩ := hq (by omega)
      obtain ⟨z, hz'⟩ : ∃ z, z = zs.getD k 0 := ⟨_, rfl⟩
      have c0 : wr.cell? ⟨b, off + k, none⟩ = some (.int .i64 z) := by rw [hz']; exact (hb.cell (p := ⟨b, off + k, none⟩) hbl).trans (hc k hlt)
      have hd : Hid (zs.drop k = z :: zs.drop (k + 1)) := by show _ = _; rw [hz']; exact drop_int hlt
      have bz := hB z (List.mem_of_mem_drop (by rw [hd.out]; simp))
      have HF := hF z wr hb
      clear hz' hc hq hB hF
      cases hp : P z
      · cases cur with
        | none =>
          have R2 : Hid (Bur.gt P none zs = done ++ Bur.gt P none (zs.drop (k + 1))) := by
            show _ = _
            rw [R.out, hd.out, Bur.gt, if_neg (by simp [hp])]
          have H : Hid _ := hp
          clear R hd hp
          go_wp2_with (go_at_call 55; refine HF.mono ?_; rintro e w1 ⟨rfl, hb1⟩; rw [H.out]; have hb2 := below_via hb hb1; have hown2 := own_below hown hb1; clear hb1)
          exact ⟨⟨k + 1, done, none, by omega, by go_num, rfl, by omega, R2, hown2, hb2⟩, by simp [intOf]; omega⟩
        | some a =>
          have R2 : Hid (Bur.gt P none zs = (done ++ [(a, z - 1)]) ++ Bur.gt P none (zs.drop (k + 1))) := by
            show _ = _
            rw [R.out, hd.out, Bur.gt, if_neg (by simp [hp])]; simp
          have H : Hid _ := hp
          have hrl' : done.length + 1 ≤ k := by simpa [rowOf] using hrl
          have hown' := hown
          simp only [rowOf, List.length_append, List.length_cons, List.length_nil, Nat.zero_add] at hown'
          clear R hd hp hown hrl
          obtain ⟨g, cp, rfl, hg0, hg1⟩ := hown'.form (by omega)
          go_wp2_with (go_at_call 55; refine HF.mono ?_; rintro e w1 ⟨rfl, hb1⟩; rw [H.out]; have hb2 := below_via hb hb1; have hown2 := own_below hown' hb1; have g1 : w1.cell? ⟨g, done.length * 2 + 1, none⟩ = some (.int .i64 0) := (hown2.cellAt (done.length * 2 + 1) (by omega)).trans (by rw [spV_app, List.getElem?_append_right (by rw [spV_len]; omega), spV_len, show done.length * 2 + 1 - done.length * 2 = 1 from by omega]; rfl); have g2 : w1.frozen? ⟨g, done.length * 2 + 1, none⟩ = false := hown2.frozenAt _; have hst := hown2.stored (done.length * 2 + 1) (.int .i64 (z - 1)); clear hb1 hown2)
          obtain ⟨s1, s2⟩ := hst
          rw [spV_close done a (z - 1) done.length rfl] at s1
          exact ⟨⟨k + 1, done ++ [(a, z - 1)], none, by omega, by go_num, rfl, by simp [rowOf]; omega, R2, by simpa [rowOf] using s1, hb2.setCell (by exact hg0) _⟩, by simp [intOf]; omega⟩
      · cases cur with
        | some a =>
          have R2 : Hid (Bur.gt P none zs = done ++ Bur.gt P (some a) (zs.drop (k + 1))) := by
            show _ = _
            rw [R.out, hd.out, Bur.gt, if_pos hp]
          have H : Hid _ := hp
          clear R hd hp
          go_wp2_with (go_at_call 55; refine HF.mono ?_; rintro e w1 ⟨rfl, hb1⟩; rw [H.out]; have hb2 := below_via hb hb1; have hown2 := own_below hown hb1; clear hb1)
          exact ⟨⟨k + 1, done, some a, by omega, by go_num, rfl, by omega, R2, hown2, hb2⟩, by simp [intOf]; omega⟩
        | none =>
          have R2 : Hid (Bur.gt P none zs = done ++ Bur.gt P (some z) (zs.drop (k + 1))) := by
            show _ = _
            rw [R.out, hd.out, Bur.gt, if_pos hp]
          have H : Hid _ := hp
          have hrl' : done.length ≤ k := by simpa [rowOf] using hrl
          have hown' := hown
          simp only [rowOf] at hown'
          clear R hd hp hown hrl
          go_wp2_with (first | (go_at_call 55; refine HF.mono ?_; rintro e w1 ⟨rfl, hb1⟩; rw [H.out]; have hb2 := below_via hb hb1; have hown2 := own_below hown' hb1; have hsz2 := hb2.size; clear hb1) | (at_builtin; refine wpList_append_own _ rfl _ _ 27 rfl w.heap.size 53 i0 (.agg #[.int .i64 0, .int .i64 0]) 2 16 Tryz.underlying27 hi hz0 hz1 hz2 rfl (by decide) _ _ _ rfl (hown2.alloc _) ⟨w1.heap.size, 0, none⟩ 1 1 [.int .i64 z, .int .i64 0] rfl rfl ?c1 ?c2 ?c3 ?c4 ?c5 ?_))
          case c1 =>
            intro j u hj
            match j, hj with
            | 0, hj => simp at hj; subst hj; simp [Addr.add]
            | 1, hj => simp at hj; subst hj; simp [Addr.add]
          case c2 => intro u hu; simp at hu; rcases hu with rfl | rfl <;> rfl
          case c3 => unfold maxLen; omega
          case c4 => omega
          case c5 => simp; omega
          intro v' w2 hown3 hgrow _
          have hb3 : Below w.heap.size w w2 := (below_al hb2 _).grown hgrow (by simp; omega) (fun j hj => (hown2.lt j hj).1)
          clear hown2 hgrow hown'
          go_wp2
          exact ⟨⟨k + 1, done, some z, by omega, by go_num, rfl, by simp [rowOf]; omega, R2, by simpa [rowOf, spV_app, spV] using hown3, hb3⟩, by simp [intOf]; omega⟩
    · have hd : zs.drop k = [] := List.drop_eq_nil_of_le (by omega)
      have R2 : Hid (Bur.gt P none zs = rowOf done cur) := by
        show _ = _
        rw [R.out, hd]
        cases cur <;> simp [Bur.gt, rowOf]
      rw [← R2.out] at hown
      clear R R2 hd hF hq
      go_wp2
      rcases hown.2 with ⟨rfl, h0⟩ | ⟨g, cp, cur', rfl, _⟩
      · go_ret
        exact ⟨none, 0, by rw [h0]; rfl, fun h => by omega, hb⟩
      · go_ret
        exact ⟨some ⟨g, 0, none⟩, cp, rfl, (spAt_own hown).2, hb⟩
end Go.Proofs.YtfhidiedmenliaaGreatDoor
