/- The walk of the law CodeBack. -/
import Derived.Test.YtoacbiefhdkkpaaDoorCdFace
import Derived.Test.YtoacbiefhdkkpaaDoorCdSame
import Derived.Test.YtoacbiefhdkkpaaDoorAdErr2
import Derived.Maps.AppendAt
import Derived.OneCell
namespace Vs
theorem deS_enc {l : List Chg} (h : chF l = 0) : deS (encL l) = l ∧ deF (encL l) = 0 := by
  have := dec_enc h []
  rw [List.append_nil, if_pos rfl] at this
  rw [deS, deF, this]; exact ⟨rfl, rfl⟩
theorem deS_cut {l : List Chg} (h : chF l = 0) {k : Nat} (hk : k < (encL l).length) : deS ((encL l).take k) = [] ∧ deF ((encL l).take k) = 5 := by
  have := dec_cut h (p := (encL l).take k) (s := (encL l).drop k) (by simp) (fun e => by have := congrArg List.length e; simp at this; omega)
  rw [deS, deF, this]; exact ⟨rfl, rfl⟩
theorem deS_more {l : List Chg} (h : chF l = 0) (x : UInt8) : deS (encL l ++ [x]) = [] ∧ deF (encL l ++ [x]) = 5 := by
  rw [deS, deF, dec_more h x]; exact ⟨rfl, rfl⟩
theorem encC_len {c : Chg} (h : chW c = false) : (encC c).length ≤ 40 := by
  obtain ⟨_, h2, h3, _⟩ := chW_ok h
  unfold encC
  split <;> simp <;> omega
theorem encs_len : ∀ {l : List Chg}, (∀ c ∈ l, chW c = false) → (l.flatMap encC).length ≤ l.length * 40
  | [], _ => by simp
  | c :: r, h => by
    have h1 := encC_len (h c (by simp))
    have h2 := encs_len (l := r) (fun x hx => h x (by simp [hx]))
    rw [List.flatMap_cons, List.length_append, List.length_cons]; omega
theorem encL_len {l : List Chg} (h : chF l = 0) : 0 < (encL l).length ∧ (encL l).length ≤ 1000 := by
  obtain ⟨h1, h2⟩ := chF_ok h
  have := encs_len h2
  rw [encL, List.length_cons]; omega
end Vs
namespace Go.Proofs.YtoacbiefhdkkpaaDoor
open Go.RowKit Go.Lib

theorem etStep {w w' : World} (h : ErrType w) (hb : Below w.heap.size w w') : ErrType w' := (hb.cell (World.block_lt_of_cell? _ _ h)).trans h
theorem ByAt.take {w : World} {q : Option Addr} {l : List UInt8} (h : ByAt w q l) (k : Nat) : ByAt w q (l.take k) := by
  intro hk
  obtain ⟨b, off, rfl, hlt, hc⟩ := h (by simp at hk; omega)
  refine ⟨b, off, rfl, hlt, fun i x hx => hc i x ?_⟩
  rw [List.getElem?_take] at hx
  split at hx
  · exact hx
  · cases hx
/-- 'append(v, l...)', v of the call's own, l any bytes in memory. -/
theorem wpList_append_by {w : World} {ops : Array Oper} {rest : List Oper} {o : Oper} {a : Act} {Q : Exit → Act → World → Prop} (hgd : o.guard = none) (s x : Operand)
    (ho : o.op = .call { callee := .builtin .append, args := #[s, x], argTypes := #[23, 23] })
    (base : Nat) (v : Value) (n : Nat) (xs : List Value) (hs : a.eval s = v) (hown : w.ownsRow base 5 1 v n xs) (hbase : base ≤ w.heap.size)
    (q : Option Addr) (c : Nat) (l : List UInt8) (hx : a.eval x = .slice q l.length c) (hl : ByAt w q l) (h0 : 0 < l.length) (h63 : n + l.length ≤ 1000000)
    (h : ∀ v' w', w'.ownsRow base 5 1 v' (n + l.length) (xs ++ byV l) → w.grownBy w' v.ownBlock → wpList Tryd.prog ops Q rest (a.put o.dst v') w') : wpList Tryd.prog ops Q (o :: rest) a w := by
  obtain ⟨i0, hin, hz0, hz1, hz2⟩ := info_parts infoByte
  obtain ⟨b, off, rfl, hbl, hc⟩ := hl h0
  obtain ⟨v', w', hr, h2, h3, _⟩ := run_append_own_at (P := Tryd.prog) w base 23 o.type 5 i0 (.int .u8 0) 1 1 Tryd.underlying23 hin hz0 hz1 hz2 rfl (by decide) v n xs hown ⟨b, off, none⟩ l.length c (byV l) (by rw [byV_len, Nat.mul_one]) (fun j u hj => by
    have hjl : j < l.length := by have := (List.getElem?_eq_some_iff.1 hj).1; rwa [byV_len] at this
    rw [show (⟨b, off, none⟩ : Addr).add j = ⟨b, off + j, none⟩ from by unfold Addr.add; split <;> simp_all]
    rw [hc j l[j] (List.getElem?_eq_getElem hjl), ← hj]
    simp [byV, List.getElem?_eq_getElem hjl]) (fun y hy => by obtain ⟨z, _, rfl⟩ := List.mem_map.1 hy; rfl) (by unfold maxLen; omega) (by omega) hbase
  refine wpList_plain hgd fun K hK => ?_
  unfold Oper.wp execOp
  simp only [ho, resolve, invoke, builtin, Sem.run_bind, Sem.run_pure, Result.andThen_ok, List.map_toArray, List.map_cons, List.map_nil, hs, hx, hr]
  exact hK _ _ (h v' w' h2 h3)
theorem own_cap {w : World} {B e n cap : Nat} {p : Option Addr} {xs : List Value} (h : w.ownsRow B e 1 (.slice p n cap) n xs) : n ≤ cap := by
  rcases h.2 with ⟨h0, h1⟩ | ⟨g, cap', cur, h0, _, _, h1, _⟩
  · omega
  · cases h0; exact h1
theorem pk (x : Int) (n : Nat) (hn : 0 < n) : ∃ k : Nat, x % (n : Int) = k ∧ k < n := by
  have h1 := Int.emod_nonneg x (show (n : Int) ≠ 0 by omega)
  have h2 := Int.emod_lt_of_pos x (show (0 : Int) < n by omega)
  exact ⟨(x % (n : Int)).toNat, by omega, by omega⟩
/-- A number below n. -/
theorem pick (c : Int) (n : Nat) (w : World) (hc : -9223372036854775808 ≤ c ∧ c ≤ 9223372036854775807) (hn : 0 < n) (hn2 : n ≤ 1000000) : Calls Tryd.prog 13 #[.int .i64 c, .int .i64 n] w fun e w' => ∃ k : Nat, e = .returned (.int .i64 k) ∧ k < n ∧ w' = w := by
  by_cases h : c < 0
  · obtain ⟨k, h1, h2⟩ := pk (-(c + 1)) n hn
    have h3 : -((c + 1).tmod (n : Int)) = k := by rw [← h1, ← Int.neg_tmod, Int.tmod_eq_emod_of_nonneg (by omega)]
    go_enter Tryd.func13, Tryd.ntmps13
    clear h1
    go_wp2
    go_ret
    exact ⟨k, rfl, h2, rfl⟩
  · obtain ⟨k, h1, h2⟩ := pk c n hn
    go_enter Tryd.func13, Tryd.ntmps13
    go_wp2
    go_ret
    exact ⟨k, rfl, h2, rfl⟩
theorem chAt_one (w : World) (x y : ByteArray) (g : Bool) (t : Nat) : ChAt (w.alloc (.cells #[.string x, .string y, .bool g] t)) (some ⟨w.heap.size, 0, none⟩) [⟨x, y, g⟩] := fun _ => ⟨w.heap.size, 0, rfl, by simp, fun i z hz => by
  match i, hz with
  | 0, hz => simp at hz; subst hz; simp⟩

set_option maxRecDepth 100000 in
set_option maxHeartbeats 4000000 in
theorem codeBack (hF : CFace) (l : List Vs.Chg) (c : Int) (x : UInt8) (p : Option Addr) (cp : Nat) (w : World) (hc : -9223372036854775808 ≤ c ∧ c ≤ 9223372036854775807) (hl : l.length ≤ 9223372036854775807) (hp : ChAt w p l) (het : ErrType w) :
    Calls Tryd.prog 4 #[.slice p l.length cp, .int .i64 c, .int .u8 x.toNat] w fun e w' => e = .returned (.bool true) ∧ Below w.heap.size w w' := by
  have K1 := hF.encode (w := w.alloc (.cells #[.string ⟨#[107]⟩, .string ⟨#[118]⟩, .bool false] 40)) [⟨⟨#[107]⟩, ⟨#[118]⟩, false⟩] (some ⟨w.heap.size, 0, none⟩) 1 (by simp) (chAt_one _ _ _ _ _)
  rw [show Vs.enS [⟨⟨#[107]⟩, ⟨#[118]⟩, false⟩] = [1, 1, 107, 1, 118] from by decide, show Vs.chF [⟨⟨#[107]⟩, ⟨#[118]⟩, false⟩] = 0 from by decide, ev_0] at K1
  have hbA := below_al (below_self w) (.cells #[.string ⟨#[107]⟩, .string ⟨#[118]⟩, .bool false] 40)
  have K2 := fun W (hW : Below w.heap.size w W) => hF.encode (w := W) l p cp hl (hp.step hW)
  by_cases hE : Vs.chF l = 0
  · rw [show Vs.enS l = Vs.encL l from if_pos hE] at K2
    rw [hE, ev_0] at K2
    obtain ⟨n0, n1⟩ := Vs.encL_len hE
    obtain ⟨a1, a2⟩ := Vs.deS_enc hE
    have a3 := fun k (hk : k < (Vs.encL l).length) => Vs.deS_cut hE hk
    obtain ⟨a5, a6⟩ := Vs.deS_more hE x
    generalize Vs.encL l = en at K2 n0 n1 a1 a2 a3 a5 a6
    go_enter Tryd.func4, Tryd.ntmps4
    go_wp2_with fail
    refine K1.mono ?_
    rintro e w1 ⟨q1, c1, rfl, h1, _, hb1⟩
    have cv1 := byStr c1 h1
    rw [show Vs.mkB [1, 1, 107, 1, 118] = ⟨#[1, 1, 107, 1, 118]⟩ from rfl, show ([1, 1, 107, 1, 118] : List UInt8).length = 5 from rfl] at cv1
    replace hb1 := below_via hbA hb1
    go_wp2_with fail
    refine (K2 _ hb1).mono ?_
    rintro e w2 ⟨q2, c2, rfl, h2, hcap2, hb2⟩
    clear cv1 h1
    replace hb2 := below_via hb1 hb2
    have K3 := hF.decode (w := w2) en q2 c2 (by omega) hcap2 h2
    rw [a1, a2, ev_0] at K3
    go_wp2_with fail
    refine K3.mono ?_
    rintro e w3 ⟨q3, c3, rfl, h3, hb3⟩
    replace h2 := h2.step hb3
    replace hb3 := below_via hb2 hb3
    go_wp2_with fail
    refine (sameChanges l l q3 p c3 cp _ hl h3 (hp.step hb3)).mono ?_
    rintro e w4 ⟨rfl, hb4⟩
    rw [decide_eq_true rfl]
    replace h2 := h2.step hb4
    replace hb4 := below_via hb3 hb4
    clear h3 K1 K2 K3
    have h2' := h2
    obtain ⟨b2, o2, rfl, _, _⟩ := h2' n0
    clear h2'
    go_wp2_with fail
    refine (pick c en.length _ hc n0 (by omega)).mono ?_
    rintro e w5 ⟨k, rfl, hk, hw5⟩
    rw [← hw5] at h2 hb4
    clear hw5
    have K5 := hF.decode (w := w5) (en.take k) (some ⟨b2, o2, none⟩) c2 (by simp; omega) (by simp; omega) (h2.take k)
    rw [(a3 k hk).1, (a3 k hk).2, show (en.take k).length = k from by simp; omega] at K5
    clear a3
    go_wp2_with fail
    refine K5.mono ?_
    rintro e w6 ⟨q6, c6, rfl, _, hb6⟩
    replace h2 := h2.step hb6
    replace hb6 := below_via hb4 hb6
    clear K5
    go_wp2_with fail
    refine (error_any 5 5 _ (etStep het hb6)).mono ?_
    rintro e w7 ⟨rfl, hb7⟩
    replace h2 := h2.step hb7
    replace hb7 := below_via hb6 hb7
    have hs7 := hb7.size
    clear hb1 hb2 hb3 hb4 hb6
    go_wp2_with (first
      | (at_builtin; refine wpList_append_one 23 5 1 1 _ Tryd.underlying23 infoByte rfl (by decide) (by decide) rfl _ _ rfl w.heap.size _ en.length (byV en) rfl (hown8.alloc _) (by simp; omega) w8.heap.size [.int .u8 x.toNat] rfl rfl (byte_new _ _ _) byte_one (by omega) ?_; intro v9 w9 hown9 hgrow9; have hb9 : Below w.heap.size w w9 := (below_al hb8 _).grown hgrow9 (by simp; omega) (fun j hj => (hown8.lt j hj).1); clear hgrow9)
      | (at_builtin; refine wpList_append_by rfl _ _ rfl w.heap.size (.slice none 0 0) 0 [] rfl (World.ownsRow_nil _ _ _ _) hs7 _ c2 en rfl h2 n0 (by omega) ?_; intro v8 w8 hown8 hgrow8; rw [Nat.zero_add, List.nil_append] at hown8; have hb8 : Below w.heap.size w w8 := hb7.grown hgrow8 hs7 (fun j hj => by cases hj); have hs8 := hb8.size; clear hgrow8)
      | fail)
    replace hown9 := own_byte (c := x) rfl hown9
    obtain ⟨q9, c9, rfl⟩ := own_form hown9
    have K9 := hF.decode (w := w9) (en ++ [x]) q9 c9 (by simp; omega) (own_cap hown9) (byAt_own hown9).2
    rw [a5, a6] at K9
    clear hown9 hown8
    refine K9.mono ?_
    rintro e w10 ⟨q10, c10, rfl, _, hb10⟩
    replace hb10 := below_via hb9 hb10
    clear K9
    go_wp2_with fail
    refine (error_any 5 5 _ (etStep het hb10)).mono ?_
    rintro e w11 ⟨rfl, hb11⟩
    go_wp2
    go_ret
    exact ⟨by simp, below_via hb10 hb11⟩
  · have hE' := ev_ne hE
    rw [hE'] at K2
    go_enter Tryd.func4, Tryd.ntmps4
    go_wp2_with fail
    refine K1.mono ?_
    rintro e w1 ⟨q1, c1, rfl, h1, _, hb1⟩
    have cv1 := byStr c1 h1
    rw [show Vs.mkB [1, 1, 107, 1, 118] = ⟨#[1, 1, 107, 1, 118]⟩ from rfl, show ([1, 1, 107, 1, 118] : List UInt8).length = 5 from rfl] at cv1
    replace hb1 := below_via hbA hb1
    go_wp2_with fail
    refine (K2 _ hb1).mono ?_
    rintro e w2 ⟨q2, c2, rfl, h2, _, hb2⟩
    go_wp2
    go_ret
    exact ⟨rfl, below_via hb1 hb2⟩
end Go.Proofs.YtoacbiefhdkkpaaDoor
