/- The contracts of package vers' add, Put and Drop. -/
import Derived.Test.YtickoadcficdeaaGreatDoorVsWalkC
namespace Go.Proofs.YtickoadcficdeaaGreatDoor
open Go.RowKit Go.Maps Vs

theorem zeroHist (w : World) : (zeroValue 73).run Tryz.prog w = .ok (.slice none 0 0) w := by kernel_rfl
theorem keyStr {s : ByteArray} (h : s.size ≤ maxLen) : keyOf Tryz.prog 9 (.string s) = some (kS s) := by
  simp [keyOf, mapKey, Tryz.underlying9, h]
/-- The row that is looked up is the table's own. -/
theorem Mp.mine {w : World} {F : Nat → Prop} {B M : Nat} {D : DataW Value} {l : List Ver} (h : Mp w F B M D l) (s : ByteArray) : w.ownsRow 0 64 3 ((look D (kS s)).getD (.slice none 0 0)) (hs l s).length (hiV (hs l s)) ∧
    ∀ j, ((look D (kS s)).getD (.slice none 0 0)).ownBlock = some j → (∃ n c, look D (kS s) = some (sl j n c)) ∧ F j ∧ j ≠ B ∧ j ≠ M := by
  rcases h.rows s with ⟨h1, h2⟩ | ⟨h1, g, c, h2, h3, h4, h5, h6⟩
  · rw [h1, h2]; exact ⟨World.ownsRow_nil _ _ _ _, fun j e => by cases e⟩
  · rw [h2]
    exact ⟨h6, fun j e => by
      have : g = j := Option.some.inj e
      subst this
      exact ⟨⟨_, _, rfl⟩, h3, h4, h5⟩⟩
set_option maxHeartbeats 2000000 in
set_option maxRecDepth 100000 in
theorem add {F : Nat → Prop} {B : Nat} {l : List Ver} {top : Int} (x : Ver) (w : World) (hT : Tab w F B l top) (hO : OkT l top) (hl : l.length ≤ 1000) (hF : ∀ j, F j → j < w.heap.size) (hk : x.k.size ≤ maxLen) :
    Calls Tryz.prog 22 #[.pointer (some ⟨B, 0, none⟩), .string x.k, vrV x] w fun e w' => e = .returned (ev (ptF x top)) ∧ Tab w' (Nw F w w') B (ptL l top x) (ptT top x) ∧ But F w w' := by
  have hB := hT.lt
  have hb1 : Below w.heap.size w (w.alloc (.cells #[.int .i64 x.n, .string x.v, .bool x.g] 64)) := below_al (below_self w) _
  have hC := checkVersion B x top (w.alloc (.cells #[.int .i64 x.n, .string x.v, .bool x.g] 64)) ((hb1.cell (p := ⟨B, 1, none⟩) hB).trans hT.c1)
  by_cases h0 : ptF x top = 0
  · rw [show ptL l top x = vput l x from if_pos h0, show ptT top x = x.n from if_pos h0]
    rw [h0] at hC ⊢
    rw [ev_0] at hC
    go_enter Tryz.func22, Tryz.ntmps22
    go_wp2_with (go_at_call 37; refine hC.mono ?_; rintro e w2 ⟨rfl, hb2⟩)
    have hb := below_via hb1 hb2
    have hT2 := hT.step hb
    obtain ⟨M, D, m0, hM⟩ := hT2.mp
    have hN : w.heap.size < (w.alloc (.cells #[.int .i64 x.n, .string x.v, .bool x.g] 64)).heap.size := by simp
    have n0 : w2.cell? ⟨w.heap.size, 0, none⟩ = some (.int .i64 x.n) := (hb2.cell (p := ⟨w.heap.size, 0, none⟩) hN).trans (by simp)
    have n1 : w2.cell? ⟨w.heap.size, 1, none⟩ = some (.string x.v) := (hb2.cell (p := ⟨w.heap.size, 1, none⟩) hN).trans (by simp)
    have n2 : w2.cell? ⟨w.heap.size, 2, none⟩ = some (.bool x.g) := (hb2.cell (p := ⟨w.heap.size, 2, none⟩) hN).trans (by simp)
    obtain ⟨own2, sz2⟩ := hM.tight
    obtain ⟨mine, at2⟩ := hM.mine x.k
    have hkey := keyStr hk
    have hlen : (hs l x.k).length ≤ 1000 := Nat.le_trans (len_hs l x.k) hl
    have hn1 := (ptF_ok h0).1.2.2.2.1
    have own2d : w2.drew.ownsMap Tryz.prog 9 anyE M l.length D := own2
    have mined : w2.drew.ownsRow 0 64 3 ((look D (kS x.k)).getD (.slice none 0 0)) (hs l x.k).length (hiV (hs l x.k)) := mine
    have hbd : But F w w2.drew := (But.below hb).drew
    have hszd : w.heap.size ≤ w2.drew.heap.size := hb.size
    have hMB : M < w2.drew.heap.size := hM.lt
    have hMne := hM.ne
    have hBd : B < w2.drew.heap.size := Nat.lt_of_lt_of_le hB hb.size
    have hNd : w.heap.size < w2.drew.heap.size := Nat.lt_of_lt_of_le hN hb2.size
    have hc1 : w2.drew.cell? ⟨B, 1, none⟩ = some (.int .i64 top) := hT2.c1
    have hf1 : w2.drew.frozen? ⟨B, 1, none⟩ = false := hT2.f1
    have hMd : Mp w2.drew F B M D l := hM.step (below_self w2).drew
    have hP : Hid (hs (vput l x) x.k = wiH (hs l x.k) x ∧ ∀ t, t ≠ x.k → hs (vput l x) t = hs l t) := ⟨hs_put hO h0, fun t ht => hs_put_other ht⟩
    have gB : F B := hT2.gB
    have gM : F M := hM.gM
    have hFM : M < w.heap.size := hF M gM
    have hlk := run_look 57 9 73 keyed Tryz.underlying57 (zeroHist w2.drew) M l.length D own2d (.string x.k) (kS x.k) hkey
    clear hC hT hb1 hb2 hT2 hM own2 mine h0 hO
    go_region_held3 (fun wy => wy.cell? ⟨B, 0, none⟩ = some (.map (some M)) ∧ wy.cell? ⟨w.heap.size, 0, none⟩ = some (.int .i64 x.n) ∧ wy.cell? ⟨w.heap.size, 1, none⟩ = some (.string x.v) ∧ wy.cell? ⟨w.heap.size, 2, none⟩ = some (.bool x.g))
      (first | exact ⟨m0, n0, n1, n2⟩ | exact ⟨m3, k0, k1, k2⟩ | exact ⟨m4, r0, r1, r2⟩)
      (first
        | (go_at_call 38; refine (with_ _ (hs l x.k) x w2.drew hlen hn1 mined).mono ?_; rintro e w3 ⟨g, c, rfl, row3, at3, but3⟩; have m3 := (but3.cell (p := ⟨B, 0, none⟩) hBd (fun e => (at2 B e).2.2.1 rfl)).trans m0; have k0 := (but3.cell (p := ⟨w.heap.size, 0, none⟩) hNd (fun e => Nat.lt_irrefl _ (hF _ (at2 _ e).2.1))).trans n0; have k1 := (but3.cell (p := ⟨w.heap.size, 1, none⟩) hNd (fun e => Nat.lt_irrefl _ (hF _ (at2 _ e).2.1))).trans n1; have k2 := (but3.cell (p := ⟨w.heap.size, 2, none⟩) hNd (fun e => Nat.lt_irrefl _ (hF _ (at2 _ e).2.1))).trans n2; have own3 := map_but own2d but3 (fun e => (at2 M e).2.2.2 rfl); obtain ⟨w4, hput, own4, hg4⟩ := own3.update keyed Tryz.underlying57 (by unfold maxLen; omega) hkey (val := sl g (wiH (hs l x.k) x).length c) (d := .held (sl g (wiH (hs l x.k) x).length c)) (ps := []) rfl; have b4 : But (fun j => j = M) w3 w4 := ⟨hg4.os, hg4.tape, hg4.output, hg4.size, fun k hk hF => hg4.block k hk (fun e => hF (Option.some.inj e))⟩; have hs3 := but3.size; have m4 := (b4.cell (p := ⟨B, 0, none⟩) (by show B < w3.heap.size; omega) (fun e => hMne e.symm)).trans m3; have r0 := (b4.cell (p := ⟨w.heap.size, 0, none⟩) (by show w.heap.size < w3.heap.size; omega) (fun e => by have e : w.heap.size = M := e; omega)).trans k0; have r1 := (b4.cell (p := ⟨w.heap.size, 1, none⟩) (by show w.heap.size < w3.heap.size; omega) (fun e => by have e : w.heap.size = M := e; omega)).trans k1; have r2 := (b4.cell (p := ⟨w.heap.size, 2, none⟩) (by show w.heap.size < w3.heap.size; omega) (fun e => by have e : w.heap.size = M := e; omega)).trans k2))
    have c4 := (b4.cell (p := ⟨B, 1, none⟩) (by show B < w3.heap.size; omega) (fun e => hMne e.symm)).trans ((but3.cell (p := ⟨B, 1, none⟩) hBd (fun e => (at2 B e).2.2.1 rfl)).trans hc1)
    have f4 := (b4.frozen (p := ⟨B, 1, none⟩) (by show B < w3.heap.size; omega) (fun e => hMne e.symm)).trans ((but3.frozen (p := ⟨B, 1, none⟩) hBd (fun e => (at2 B e).2.2.1 rfl)).trans hf1)
    have hs4 := b4.size
    have gM3 : ¬ g = M := fun e => by
      rcases at3 with a3 | a3
      · exact (at2 g a3).2.2.2 e
      · omega
    have b24 : But (fun j => ((look D (kS x.k)).getD (.slice none 0 0)).ownBlock = some j ∨ j = M) w2.drew w4 := (but3.mono (fun _ _ => Or.inl)).then b4 (fun _ _ => Or.inr)
    have hMp := Mp.set (l' := vput l x) hMd hBd hP.out.1 (wiH_ne _ _) hP.out.2 (at3.imp (fun e => (at2 g e).1) id) (own_but row3 b4 gM3) own4 b24 (fun j _ e => e.elim (fun e => .inr (at2 j e).1) .inl)
    have bw4 : But F w w4 := hbd.then b24 (fun i _ e => e.elim (fun e => (at2 i e).2.1) (fun e => by rw [e]; exact gM))
    clear hMd hP row3 own4 b24 b4 but3 own3 own2d mined hlk hput
    go_wp2_with fail
    go_ret
    have b5 : But (fun j => j = B) w4 (w4.setCell ⟨B, 1, none⟩ (.int .i64 x.n)) := But.setCell (F := fun j => j = B) (p := ⟨B, 1, none⟩) (But.refl _ w4) (.inl rfl) _
    have hs5 := b5.size
    refine ⟨rfl, ⟨.inl gB, by go_simp, by go_simp, M, _, by go_simp, (hMp.notB b5).mono (fun j _ hj => hj.imp id (fun hj => ⟨by omega, by omega⟩))⟩, bw4.setCell (.inl gB) _⟩
  · rw [show ptL l top x = l from if_neg h0, show ptT top x = top from if_neg h0, ev_ne h0]
    rw [ev_ne h0] at hC
    go_enter Tryz.func22, Tryz.ntmps22
    go_wp2_with (go_at_call 37; refine hC.mono ?_; rintro e w2 ⟨rfl, hb2⟩)
    go_ret
    have hb := below_via hb1 hb2
    exact ⟨rfl, (hT.step hb).mono (fun j _ hj => .inl hj), .below hb⟩
theorem put {F : Nat → Prop} {B : Nat} {l : List Ver} {top : Int} (k v : ByteArray) (n : Int) (w : World) (hT : Tab w F B l top) (hO : OkT l top) (hl : l.length ≤ 1000) (hF : ∀ j, F j → j < w.heap.size) (hk : k.size ≤ maxLen) :
    Calls Tryz.prog 7 #[.pointer (some ⟨B, 0, none⟩), .string k, .string v, .int .i64 n] w fun e w' => e = .returned (ev (ptF ⟨k, v, n, false⟩ top)) ∧ Tab w' (Nw F w w') B (ptL l top ⟨k, v, n, false⟩) (ptT top ⟨k, v, n, false⟩) ∧ But F w w' := by
  have hA := add ⟨k, v, n, false⟩ w hT hO hl hF hk
  generalize ptF ⟨k, v, n, false⟩ top = f at hA ⊢
  generalize ptL l top ⟨k, v, n, false⟩ = l' at hA ⊢
  generalize ptT top ⟨k, v, n, false⟩ = t' at hA ⊢
  go_enter Tryz.func7, Tryz.ntmps7
  go_wp2_with (go_at_call 22; refine hA.mono ?_; rintro e w2 ⟨rfl, h2, h3⟩)
  go_ret
  exact ⟨rfl, h2, h3⟩
theorem drop {F : Nat → Prop} {B : Nat} {l : List Ver} {top : Int} (k : ByteArray) (n : Int) (w : World) (hT : Tab w F B l top) (hO : OkT l top) (hl : l.length ≤ 1000) (hF : ∀ j, F j → j < w.heap.size) (hk : k.size ≤ maxLen) :
    Calls Tryz.prog 8 #[.pointer (some ⟨B, 0, none⟩), .string k, .int .i64 n] w fun e w' => e = .returned (ev (ptF ⟨k, ByteArray.empty, n, true⟩ top)) ∧ Tab w' (Nw F w w') B (ptL l top ⟨k, ByteArray.empty, n, true⟩) (ptT top ⟨k, ByteArray.empty, n, true⟩) ∧ But F w w' := by
  have hA := add ⟨k, ByteArray.empty, n, true⟩ w hT hO hl hF hk
  generalize ptF ⟨k, ByteArray.empty, n, true⟩ top = f at hA ⊢
  generalize ptL l top ⟨k, ByteArray.empty, n, true⟩ = l' at hA ⊢
  generalize ptT top ⟨k, ByteArray.empty, n, true⟩ = t' at hA ⊢
  go_enter Tryz.func8, Tryz.ntmps8
  go_wp2_with (go_at_call 22; refine hA.mono ?_; rintro e w2 ⟨rfl, h2, h3⟩)
  go_ret
  exact ⟨rfl, h2, h3⟩
end Go.Proofs.YtickoadcficdeaaGreatDoor
