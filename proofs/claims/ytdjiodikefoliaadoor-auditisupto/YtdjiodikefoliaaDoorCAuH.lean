/- Package audit: Prefixes. -/
import Derived.Test.YtdjiodikefoliaaDoorCAuG
namespace Bur
theorem pf_fnz {L : List Vs.Pr} (h : (auP L).2 = 0) (n : List UInt8) (a : Int) (ha : a = if hasN L n = true then 0 else 4) : fnz [a, treF (pck L 2 n)] = pfF L n := by
  unfold pfF
  rw [if_pos h, pfF_tree h n, ha]
  by_cases h1 : hasN L n = true
  · rw [if_pos h1, if_pos h1]
    by_cases h2 : 60 < (pck L 2 n).length
    · simp [fnz, h2]
    · simp [fnz, h2]
  · rw [if_neg h1, if_neg h1]
    simp [fnz]
end Bur
namespace Go.Proofs.YtdjiodikefoliaaDoor.Au
open Go.RowKit Go.Maps Pa
open Ta (SpAt spV spAt_own info_pfx tcheck own_below)

theorem own_form {w : World} {B e size n : Nat} {v : Value} {xs : List Value} (h : w.ownsRow B e size v n xs) : ∃ p cp, v = .slice p n cp := by
  rcases h.2 with ⟨rfl, h1⟩ | ⟨g, cap, cur, rfl, _⟩
  · rw [h1]; exact ⟨none, 0, rfl⟩
  · exact ⟨some ⟨g, 0, none⟩, cap, rfl⟩
theorem two_cells (w : World) (t : Nat) (a b : Int) : ∀ (i : Nat) (f : Int), [a, b][i]? = some f → (w.alloc (.cells #[ev a, ev b] t)).cell? ⟨w.heap.size, i, none⟩ = some (ev f)
  | 0, f, h => by simp at h; subst h; simp
  | 1, f, h => by simp at h; subst h; simp
  | i + 2, f, h => by simp at h
set_option maxRecDepth 100000 in
set_option maxHeartbeats 4000000 in
theorem auPrefixes (L : List Vs.Pr) (p : Option Addr) (cap : Nat) (n : List UInt8) (w : World) (hp : PrAt w p L) (hl : L.length ≤ 1000) (hk : ∀ x ∈ L, x.1.size < 4294967281) (hm : MaxL w) (hn : n.length ≤ maxLen) :
    Calls Tryd.prog 8 #[.slice p L.length cap, .string ⟨n.toArray⟩] w fun e w' => ∃ v, e = .returned (.tuple #[v, ev (Bur.pfF L n)]) ∧ w'.ownsRow w.heap.size 24 2 v (Bur.pfT L n).length (spV (Bur.pfT L n)) ∧ Below w.heap.size w w' := by
  have K1 := auLook L p cap w hp hl hk hm
  have K2 := fun a b W hb hg => auChecks L p cap a b W hg (hp.step hb) hl hk (hm.step hb)
  have K3 := fun W hb => auPick L p cap 2 n W (hp.step hb) hl hk (hm.step hb) (by decide)
  unfold sgV at K1 K2
  by_cases h0 : (Bur.auP L).2 = 0
  · have K4 := fun a b W (hg : Sg W a b L) => auFindNet hg hn
    have hF := Bur.pf_fnz h0 n (fnF L n) rfl
    have hT : Bur.pfF L n = 0 → Bur.pfT L n = Bur.pck L 2 n := fun q => if_pos q
    have hT' : Bur.pfF L n ≠ 0 → Bur.pfT L n = [] := fun q => if_neg q
    have hlen := Bur.pck_len L 2 n L.length
    rw [List.take_length] at hlen
    unfold sgV at K4
    rw [h0, ev_0] at K2
    generalize (Bur.auP L).1 = i at K2
    generalize Bur.pck L 2 n = P at K3 hF hT hlen
    generalize fnF L n = F1 at K4 hF
    have K5 := fun (q : Option Addr) (c : Nat) (W : World) hs => tcheck q c P W (by omega) hs
    generalize Bur.treF P = F2 at K5 hF
    have K6 := fun (W' : World) => auFirst [F1, F2] W'.heap.size 2 (W'.alloc (.cells #[ev F1, ev F2] 29)) (two_cells W' _ F1 F2) (by simp)
    obtain ⟨V1, E1, C1⟩ := ev_cells F1
    obtain ⟨V2, E2, C2⟩ := ev_cells F2
    unfold Value.cells at C1 C2
    rw [← E1.out] at K4
    rw [← E2.out] at K5
    rw [← E1.out, ← E2.out, hF] at K6
    generalize Bur.pfT L n = T at hT hT' ⊢
    generalize Bur.pfF L n = G at hT hT' K6 ⊢
    clear hF h0
    by_cases hG : G = 0
    · subst hG
      obtain rfl := hT rfl
      rw [ev_0] at K6 ⊢
      clear hT hT'
      go_enter Tryd.func8, Tryd.ntmps8
      go_wp2_with (first
        | (go_at_call 16; refine K1.mono ?_; clear K1; rintro e w1 ⟨a, b, rfl, hg, hb1⟩; have bA := below_al (below_self w1) (.cells #[.map (some a), .map (some b)] 55); have hg1 := hg.step bA; have s0 : (w1.alloc (.cells #[.map (some a), .map (some b)] 55)).cell? ⟨w1.heap.size, 0, none⟩ = some (.map (some a)) := (by simp); have s1 : (w1.alloc (.cells #[.map (some a), .map (some b)] 55)).cell? ⟨w1.heap.size, 1, none⟩ = some (.map (some b)) := (by simp); have bB := below_via hb1 bA)
        | (go_at_call 17; refine (K2 a b _ bB hg1).mono ?_; rintro e w2 ⟨rfl, hb2⟩; have hg2 := hg1.step hb2; have bC := below_via bB hb2; have s02 := (hb2.cell (p := ⟨w1.heap.size, 0, none⟩) (by simp)).trans s0; have s12 := (hb2.cell (p := ⟨w1.heap.size, 1, none⟩) (by simp)).trans s1)
        | (go_at_call 19; refine (K3 _ bC).mono ?_; rintro e w3 ⟨v, rfl, row3, hb3⟩; obtain ⟨q, c, rfl⟩ := own_form row3; have hg3 := hg2.step hb3; have bD := below_via bC hb3; have s03 := (hb3.cell (p := ⟨w1.heap.size, 0, none⟩) (World.block_lt_of_cell? _ _ s02)).trans s02; have s13 := (hb3.cell (p := ⟨w1.heap.size, 1, none⟩) (World.block_lt_of_cell? _ _ s12)).trans s12)
        | (go_at_call 21; refine (K4 a b _ hg3).mono ?_; rintro e w4 ⟨rfl, hb4⟩; have row4 := own_below row3 hb4; have bE := below_via bD hb4)
        | (go_at_call 22; refine (K5 q c _ (spAt_own row4).2).mono ?_; rintro e w5 ⟨rfl, hb5⟩; have row5 := own_below row4 hb5; have bF := below_via bE hb5)
        | (go_at_call 20; refine (K6 _).mono ?_; rintro e w6 ⟨rfl, rfl⟩))
      go_ret2
      exact ⟨_, rfl, ownMono bC.size (own_below row5 (below_al (below_self _) _)), below_al bF _⟩
    · obtain rfl := hT' hG
      rw [ev_ne hG] at K6 ⊢
      clear hT hT' hG
      go_enter Tryd.func8, Tryd.ntmps8
      go_wp2_with (first
        | (go_at_call 16; refine K1.mono ?_; clear K1; rintro e w1 ⟨a, b, rfl, hg, hb1⟩; have bA := below_al (below_self w1) (.cells #[.map (some a), .map (some b)] 55); have hg1 := hg.step bA; have s0 : (w1.alloc (.cells #[.map (some a), .map (some b)] 55)).cell? ⟨w1.heap.size, 0, none⟩ = some (.map (some a)) := (by simp); have s1 : (w1.alloc (.cells #[.map (some a), .map (some b)] 55)).cell? ⟨w1.heap.size, 1, none⟩ = some (.map (some b)) := (by simp); have bB := below_via hb1 bA)
        | (go_at_call 17; refine (K2 a b _ bB hg1).mono ?_; rintro e w2 ⟨rfl, hb2⟩; have hg2 := hg1.step hb2; have bC := below_via bB hb2; have s02 := (hb2.cell (p := ⟨w1.heap.size, 0, none⟩) (by simp)).trans s0; have s12 := (hb2.cell (p := ⟨w1.heap.size, 1, none⟩) (by simp)).trans s1)
        | (go_at_call 19; refine (K3 _ bC).mono ?_; rintro e w3 ⟨v, rfl, row3, hb3⟩; obtain ⟨q, c, rfl⟩ := own_form row3; have hg3 := hg2.step hb3; have bD := below_via bC hb3; have s03 := (hb3.cell (p := ⟨w1.heap.size, 0, none⟩) (World.block_lt_of_cell? _ _ s02)).trans s02; have s13 := (hb3.cell (p := ⟨w1.heap.size, 1, none⟩) (World.block_lt_of_cell? _ _ s12)).trans s12)
        | (go_at_call 21; refine (K4 a b _ hg3).mono ?_; rintro e w4 ⟨rfl, hb4⟩; have row4 := own_below row3 hb4; have bE := below_via bD hb4)
        | (go_at_call 22; refine (K5 q c _ (spAt_own row4).2).mono ?_; rintro e w5 ⟨rfl, hb5⟩; have row5 := own_below row4 hb5; have bF := below_via bE hb5)
        | (go_at_call 20; refine (K6 _).mono ?_; rintro e w6 ⟨rfl, rfl⟩))
      go_ret2
      exact ⟨_, rfl, World.ownsRow_nil _ _ _ _, below_al bF _⟩
  · have hF : Bur.pfF L n = (Bur.auP L).2 := if_neg h0
    have hT : Bur.pfT L n = [] := if_neg (by rw [hF]; exact h0)
    rw [hF, hT]
    rw [ev_ne h0]
    rw [ev_ne h0] at K2
    generalize (Bur.auP L).1 = i at K2
    generalize (Bur.auP L).2 = G at K2 ⊢
    clear hF hT h0 K3
    go_enter Tryd.func8, Tryd.ntmps8
    go_wp2_with (first
      | (go_at_call 16; refine K1.mono ?_; clear K1; rintro e w1 ⟨a, b, rfl, hg, hb1⟩; have bA := below_al (below_self w1) (.cells #[.map (some a), .map (some b)] 55); have hg1 := hg.step bA; have bB := below_via hb1 bA)
      | (go_at_call 17; refine (K2 a b _ bB hg1).mono ?_; rintro e w2 ⟨rfl, hb2⟩; have bC := below_via bB hb2))
    go_ret2
    exact ⟨_, rfl, World.ownsRow_nil _ _ _ _, bC⟩
end Go.Proofs.YtdjiodikefoliaaDoor.Au
