/- The contract of the reference's Collect. -/
import Derived.Test.YtickoadcficdeaaGreatDoorVsRefD
namespace Vs
theorem filter_drop {l : List Ver} {p : Ver → Bool} {k : Nat} {x : Ver} (hx : l[k]? = some x) (o : List Ver) : o ++ (l.drop k).filter p = (if p x = true then o ++ [x] else o) ++ (l.drop (k + 1)).filter p := by
  obtain ⟨h, e⟩ := List.getElem?_eq_some_iff.1 hx
  rw [List.drop_eq_getElem_cons h, e]
  by_cases c : p x = true
  · rw [if_pos c, List.filter_cons_of_pos c]; simp
  · rw [if_neg c, List.filter_cons_of_neg c]
end Vs
namespace Go.Proofs.YtickoadcficdeaaGreatDoor
open Go.RowKit

theorem infoVer : (Tryz.prog.info? 34).map (fun i => (i.zero, i.size, i.bytes)) = some (some (.agg #[.string ByteArray.empty, .string ByteArray.empty, .int .i64 0, .bool false]), 4, 48) := by kernel_rfl
abbrev verC (x : Vs.Ver) : List Value := [.string x.k, .string x.v, .int .i64 x.n, .bool x.g]
theorem ver_new {W : World} {k v : ByteArray} {n : Int} {g : Bool} {t N : Nat} (hN : N = W.heap.size) : ∀ (j : Nat) (u : Value), ([.string k, .string v, .int .i64 n, .bool g] : List Value)[j]? = some u → (W.alloc (.cells #[.string k, .string v, .int .i64 n, .bool g] t)).cell? ⟨N, j, none⟩ = some u := by
  subst hN
  intro j u hj
  match j, hj with
  | 0, hj => simp at hj; subst hj; simp
  | 1, hj => simp at hj; subst hj; simp
  | 2, hj => simp at hj; subst hj; simp
  | 3, hj => simp at hj; subst hj; simp
theorem ver_one {k v : ByteArray} {n : Int} {g : Bool} : ∀ u ∈ ([.string k, .string v, .int .i64 n, .bool g] : List Value), u.oneCell' = true := by
  intro u hu; simp at hu; rcases hu with rfl | rfl | rfl | rfl <;> rfl
theorem own_ver {w : World} {B e : Nat} {v : Value} {o : List Vs.Ver} {x : Vs.Ver} (h : w.ownsRow B e 4 v (o.length + 1) (verV o ++ verC x)) : w.ownsRow B e 4 v (o ++ [x]).length (verV (o ++ [x])) := by
  rw [verV_app, List.length_append]; exact h
/-- The table gets a new row. -/
theorem RT.set {w : World} {G : Nat → Prop} {B n0 e m cq : Nat} {q : Option Addr} {l : List Vs.Ver} {top : Int} (gB : G B) (hB : B < n0) (hBw : B < w.heap.size) (h0 : ∃ u, w.cell? ⟨B, 0, none⟩ = some u) (h1 : w.cell? ⟨B, 1, none⟩ = some (.int .i64 top)) (f0 : w.frozen? ⟨B, 0, none⟩ = false) (f1 : w.frozen? ⟨B, 1, none⟩ = false)
    (hown : w.ownsRow n0 e 4 (.slice q m cq) l.length (verV l)) : RT (w.setCell ⟨B, 0, none⟩ (.slice q m cq)) (fun k => G k ∨ (n0 ≤ k ∧ k < w.heap.size)) B l top := by
  obtain ⟨u, h0⟩ := h0
  obtain ⟨hm, hv⟩ := vrAt_own hown
  subst hm
  have hs : (w.setCell ⟨B, 0, none⟩ (.slice q l.length cq)).heap.size = w.heap.size := by simp [World.setCell]
  refine ⟨.inl gB, ⟨q, cq, by go_simp, ?_⟩, by go_simp, by go_simp, by go_simp⟩
  have hb : But (fun k => k = B) w (w.setCell ⟨B, 0, none⟩ (.slice q l.length cq)) := (But.refl (fun k => k = B) w).setCell (p := ⟨B, 0, none⟩) (.inl rfl) _
  intro hl
  obtain ⟨b, off, rfl, hlt, hg, hc⟩ := (hv.but hb (fun k hk hg e => by subst e; omega)) hl
  exact ⟨b, off, rfl, hlt, ⟨.inr ⟨hg, by omega⟩, by omega⟩, hc⟩

set_option maxHeartbeats 4000000 in
theorem refCollect {G : Nat → Prop} {B : Nat} {l : List Vs.Ver} {top : Int} (a : Int) (w : World) (hT : Vs.OkT l top) (hR : RT w G B l top) (hl : l.length ≤ 100000) :
    Calls Tryz.prog 9 #[.pointer (some ⟨B, 0, none⟩), .int .i64 a] w fun e w' => e = .returned (.int .i64 ((l.length : Int) - (Vs.vcol l a).length)) ∧ RT w' (fun k => G k ∨ (w.heap.size ≤ k ∧ k < w'.heap.size)) B (Vs.vcol l a) top ∧ But (fun k => k = B) w w' := by
  obtain ⟨N, hN⟩ : ∃ N, N = Vs.vcol l a := ⟨_, rfl⟩
  have hNl : N.length ≤ l.length := by rw [hN]; exact List.length_filter_le _ _
  rw [← hN]
  replace hN : Hid (N = [] ++ (l.drop 0).filter (Vs.kept l a)) := hN
  have hB := hR.lt
  go_enter Tryz.func9, Tryz.ntmps9
  go_upto_block 0 with fail
  go_cut [5, 6, 7] from 9 to 46 (fun s _ _ wr => wr.ownsRow w.heap.size 34 4 s N.length (verV N) ∧ Below w.heap.size w wr)
  case first =>
    go_wp2_with fail
    go_loopw [5, 6] (fun s i wr => ∃ (k : Nat) (o : List Vs.Ver), k ≤ l.length ∧ i = .int .i64 k ∧ o.length ≤ k ∧ wr.ownsRow w.heap.size 34 4 s o.length (verV o) ∧ Hid (N = o ++ (l.drop k).filter (Vs.kept l a)) ∧ Below w.heap.size w wr) (fun _ i _ => l.length - (intOf i).toNat)
    case atStart => exact ⟨0, [], by omega, rfl, by simp, World.ownsRow_nil _ _ _ _, hN, below_self _⟩
    case round =>
      obtain ⟨k, o, hk, rfl, hol, hown, hM, hb⟩ := hrel
      have hws := hb.size
      obtain ⟨p, cap, hp, hv⟩ := (hR.step hb).row
      by_cases hlt : k < l.length
      · have hlt' : (k : Int) < (l.length : Int) := by omega
        obtain ⟨bb, off, rfl, hbl, _, hc⟩ := hv (by omega)
        obtain ⟨x, hx⟩ := Vs.getsome hlt
        obtain ⟨d0, d1, d2, d3⟩ := hc k x hx
        have hst : Hid _ := hM.out.trans (Vs.filter_drop hx o)
        have hno : Hid (Vs.kept l a x = false → N = o ++ (l.drop (k + 1)).filter (Vs.kept l a)) := fun h => by rw [hst.out, if_neg (by rw [h]; simp)]
        have hyes : Hid (Vs.kept l a x = true → N = (o ++ [x]) ++ (l.drop (k + 1)).filter (Vs.kept l a)) := fun h => by rw [hst.out, if_pos h]
        have vb := Vb.new wr 34 x
        have hbA := below_al (below_self wr) (.cells #[.string x.k, .string x.v, .int .i64 x.n, .bool x.g] 34)
        have hbW := below_al hb (.cells #[.string x.k, .string x.v, .int .i64 x.n, .bool x.g] 34)
        have hownA := own_below hown hbA
        have hsee := Vs.sI_at hT hx a
        clear hst hM hN hc hv hx
        by_cases h1 : a < x.n
        · have g1 : decide (a < x.n) = true := by simpa using h1
          have R : Hid _ := hyes.out (by simp [Vs.kept, h1])
          clear hno hyes hsee
          go_wp2_with (first
            | (at_builtin; refine wpList_append_one 26 34 4 48 _ Tryz.underlying26 infoVer rfl (by decide) (by decide) rfl _ _ rfl w.heap.size _ o.length (verV o) rfl (hownA.alloc _) (by simp; omega) (wr.heap.size + 1) (verC x) rfl rfl (ver_new (by simp)) ver_one (by omega) ?_; intro v2 w2 hown2 hgrow2)
            | go_in)
          exact ⟨⟨k + 1, o ++ [x], by omega, by go_num, by simp; omega, own_ver hown2, R, (below_al hbW _).grown hgrow2 (by simp; omega) (fun j hj => (hownA.lt j hj).1)⟩, by simp [intOf]; omega⟩
        · have g1 : decide (a < x.n) = false := by simpa using h1
          have K := refSeen x.k a _ hT ((hR.step hb).step hbA) (by omega)
          cases g4 : (Vs.sI l x.k a == (k : Int))
          · have R : Hid _ := hno.out (by rw [g4] at hsee; simp [Vs.kept, ← hsee, h1])
            clear hno hyes hsee
            go_wp2_with (go_at_call 23; refine K.mono ?_; rintro e w2 ⟨rfl, hb2⟩)
            exact ⟨⟨k + 1, o, by omega, by go_num, by omega, own_below hownA hb2, R, below_via hbW hb2⟩, by simp [intOf]; omega⟩
          · cases g3 : x.g
            · have R : Hid _ := hyes.out (by rw [g4] at hsee; simp [Vs.kept, ← hsee, g3])
              have HG : Hid _ := g3
              clear hno hyes hsee g3
              go_wp2_with (first
                | (go_at_call 23; refine K.mono ?_; rintro e w2 ⟨rfl, hb2⟩; obtain ⟨c4, c5, c6, c7⟩ := vb.step hb2; rw [HG.out] at c7; have hownX := own_below hownA hb2; have hbX := below_via hbW hb2; have hsX := hbX.size; clear hb2 K)
                | (at_builtin; refine wpList_append_one 26 34 4 48 _ Tryz.underlying26 infoVer rfl (by decide) (by decide) rfl _ _ rfl w.heap.size _ o.length (verV o) rfl (hownX.alloc _) (by simp; omega) w2.heap.size [.string x.k, .string x.v, .int .i64 x.n, .bool false] rfl rfl (ver_new rfl) ver_one (by omega) ?_; intro v3 w3 hown3 hgrow3)
                | go_in)
              exact ⟨⟨k + 1, o ++ [x], by omega, by go_num, by simp; omega, own_ver (by rw [← HG.out] at hown3; exact hown3), R, (below_al hbX _).grown hgrow3 (by simp; omega) (fun j hj => (hownX.lt j hj).1)⟩, by simp [intOf]; omega⟩
            · have R : Hid _ := hno.out (by simp [Vs.kept, h1, g3])
              have HG : Hid _ := g3
              clear hno hyes hsee g3
              go_wp2_with (first
                | (go_at_call 23; refine K.mono ?_; rintro e w2 ⟨rfl, hb2⟩; obtain ⟨c4, c5, c6, c7⟩ := vb.step hb2; rw [HG.out] at c7; have hownX := own_below hownA hb2; have hbX := below_via hbW hb2; clear hb2 K)
                | go_in)
              exact ⟨⟨k + 1, o, by omega, by go_num, by omega, hownX, R, hbX⟩, by simp [intOf]; omega⟩
      · have hE : Hid (N = o) := by
          show _ = _
          rw [hM.out, List.drop_eq_nil_of_le (by omega)]; simp
        clear hM hN hv
        go_wp2_with fail
        go_meet
        case rel => exact ⟨by rw [hE.out]; exact hown, hb⟩
  case rest =>
    obtain ⟨hown, hb⟩ := hcut
    have hR2 := hR.step hb
    obtain ⟨p, cap, hp, hv⟩ := hR2.row
    obtain ⟨q, cq, rfl⟩ := own_form hown
    refine ‹∀ (a : Act) (w : World), Code.wp _ _ _ a w → _› _ _ ?_
    have hf0 := hR2.f0
    have hst := RT.set hR.gB hB hR2.lt ⟨_, hp⟩ hR2.c1 hR2.f0 hR2.f1 hown
    have hbut : But (fun k => k = B) w (wc.setCell ⟨B, 0, none⟩ (.slice q N.length cq)) := (But.below (F := fun k => k = B) hb).setCell (p := ⟨B, 0, none⟩) (.inl rfl) _
    have hsz : (wc.setCell ⟨B, 0, none⟩ (.slice q N.length cq)).heap.size = wc.heap.size := by simp [World.setCell]
    clear hN hv
    go_wp2_with fail
    go_ret
    exact ⟨rfl, by rw [hsz]; exact hst, hbut⟩
end Go.Proofs.YtickoadcficdeaaGreatDoor
