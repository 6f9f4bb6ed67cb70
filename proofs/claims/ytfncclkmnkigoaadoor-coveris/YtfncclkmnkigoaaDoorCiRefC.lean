/- The contract of the reference's CoverOf. -/
import Derived.Test.YtfncclkmnkigoaaDoorCiRefB
import Derived.Test.YtfncclkmnkigoaaDoorCvSpans
namespace Go.Proofs.YtfncclkmnkigoaaDoor
open Go.RowKit

theorem wpList_append_any {P : Program} {w : World} {ops : Array Oper} {rest : List Oper} {o : Oper} {a : Act} {Q : Exit → Act → World → Prop} (hgd : o.guard = none) (s x : Operand) (t : TypeId)
    (ho : o.op = .call { callee := .builtin .append, args := #[s, x], argTypes := #[t, t] })
    (base base2 : Nat) (e : TypeId) (i : TypeInfo) (z : Value) (size bytes : Nat) (ht : P.underlying t = some (.slice e)) (hi : P.info? e = some i) (hz : i.zero = some z)
    (hsize : i.size = size) (hby : i.bytes = bytes) (hzs : z.cells.size = size) (hsz : 0 < size)
    (v : Value) (n : Nat) (xs : List Value) (hs : a.eval s = v) (hown : w.ownsRow base e size v n xs)
    (u : Value) (m : Nat) (news : List Value) (hx : a.eval x = u) (hsrc : w.ownsRow base2 e size u m news) (h0 : m = 0 → u = .slice none 0 0) (h1 : ∀ y ∈ news, y.oneCell' = true)
    (h63 : n + m ≤ maxLen) (hbytes : (n + m) * bytes ≤ 140737488355328) (hbase : base ≤ w.heap.size)
    (h : ∀ v' w', w'.ownsRow base e size v' (n + m) (xs ++ news) → w.grownBy w' v.ownBlock → wpList P ops Q rest (a.put o.dst v') w') : wpList P ops Q (o :: rest) a w := by
  refine wpList_plain hgd fun K hK => ?_
  have := step_append_any (E := True) (ops := ops) (K := K) (Q := Q) hgd s x t ho base base2 e i z size bytes ht hi hz hsize hby hzs hsz v n xs hs hown u m news hx hsrc h0 h1 h63 hbytes hbase (fun v' w' a b => hK _ _ (h v' w' a b))
  rw [if_pos (by simp [Region.wanted, hgd])] at this
  exact this

set_option maxRecDepth 100000 in
set_option maxHeartbeats 8000000 in
theorem refCoverOf (p : Option Addr) (cap : Nat) (l : List Bur.Sp) (w : World) (hl : l.length ≤ 64) (hA : Bur.InA l) (hs : SpAt w p l) :
    Calls Tryd.prog 22 #[.slice p l.length cap] w fun e w' => ∃ (q : Option Addr) (cq : Nat), e = .returned (.slice q (Bur.cvs l).length cq) ∧ SpAt w' q (Bur.cvs l) ∧ Below w.heap.size w w' := by
  obtain ⟨i0, hin, hz0, hz1, hz2⟩ := info_parts info_pfx
  go_enter Tryd.func22, Tryd.ntmps22
  go_wp2_with fail
  go_loopw [3, 4] (fun v i wr => ∃ (k : Nat) (done : List Bur.Sp), k ≤ l.length ∧ i = .int .i64 k ∧ done.length ≤ 4294967296 * k ∧ Hid (Bur.cvs l = done ++ Bur.cvs (l.drop k)) ∧ wr.ownsRow w.heap.size 46 2 v done.length (spV done) ∧ Below w.heap.size w wr) (fun _ i _ => l.length - (intOf i).toNat)
  case atStart => exact ⟨0, [], by omega, rfl, by simp, rfl, World.ownsRow_nil _ _ _ _, below_self _⟩
  case round =>
    obtain ⟨k, done, hk, rfl, hdl, R, hown, hbw⟩ := hrel
    have hsz := hbw.size
    by_cases hlt : k < l.length
    · have hlt' : (k : Int) < (l.length : Int) := by omega
      obtain ⟨b, off, rfl, hbl, hc⟩ := hs (by omega)
      have hcb2 := bcell hbw
      have c0 : wr.cell? ⟨b, off + k * 2, none⟩ = some (.int .i64 (lo l k)) := (hcb2.1 _ _ hbl).trans (hc k hlt).1
      have c1 : wr.cell? ⟨b, off + k * 2 + 1, none⟩ = some (.int .i64 (hi l k)) := (hcb2.1 _ _ hbl).trans (hc k hlt).2
      have ok := hA (lo l k, hi l k) (by
        have : (lo l k, hi l k) ∈ l.drop k := by rw [drop_sp hlt]; simp
        exact List.mem_of_mem_drop this)
      simp only at ok
      have hcl := Bur.cov_len ok.2.2 ok.1 (by omega)
      obtain ⟨C, hC⟩ : ∃ C, Bur.cov (lo l k) (hi l k) = C := ⟨_, rfl⟩
      have R2 : Hid (Bur.cvs l = (done ++ C) ++ Bur.cvs (l.drop (k + 1))) := by show _ = _; rw [R.out, drop_sp hlt, Bur.cvs_cons, hC, List.append_assoc]
      have cv := coversAll (lo l k) (hi l k) wr ok.1 ok.2.1 ok.2.2
      rw [hC] at cv hcl
      have hCl : C.length ≤ 4294967296 := by omega
      clear R hcb2 hc hs hA hC hcl
      go_wp2_with fail
      refine cv.mono ?_
      rintro e w2 ⟨u, rfl, own2, z2, hb2⟩
      have own1 := own_below hown hb2
      have hb3 := below_via hbw hb2
      have hsz2 := hb2.size
      clear hown hbw hb2 cv
      go_wp2_with (at_builtin; refine wpList_append_any rfl _ _ 43 rfl w.heap.size _ 46 i0 (.agg #[.int .i64 0, .int .i64 0]) 2 16 Tryd.underlying43 hin hz0 hz1 hz2 rfl (by decide) _ _ _ rfl own1 _ _ _ rfl own2 z2 (spV_one _) (by unfold maxLen; omega) (by omega) (by omega) ?_; intro v' w3 own3 hgrow; have hb4 : Below w.heap.size w w3 := hb3.grown hgrow hb3.size (fun j hj => (own1.lt j hj).1); clear hgrow own1 own2)
      exact ⟨⟨k + 1, done ++ C, by omega, by go_num, by rw [List.length_append]; omega, R2, by rw [List.length_append, spV_app]; exact own3, hb4⟩, by simp [intOf]; omega⟩
    · have R2 : Hid (Bur.cvs l = done) := by show _ = _; rw [R.out, List.drop_eq_nil_of_le (by omega)]; simp [Bur.cvs]
      clear R hs hA
      go_wp2_with fail
      rcases hown.2 with ⟨rfl, h0⟩ | ⟨g, cp, cur', rfl, _⟩
      · go_wp2_with fail
        go_ret
        exact ⟨none, 0, by rw [R2.out, h0]; rfl, by rw [R2.out]; exact fun h => by omega, hbw⟩
      · go_wp2_with fail
        go_ret
        exact ⟨some ⟨g, 0, none⟩, cp, by rw [R2.out]; rfl, by rw [R2.out]; exact (spAt_ownP hown).2, hbw⟩
end Go.Proofs.YtfncclkmnkigoaaDoor
