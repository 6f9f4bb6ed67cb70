/- The contracts of combine, Union, Meet and Minus. -/
import Derived.Test.YtfhidiedmenliaaGreatDoorSpWalkF
import Derived.Laws.EntriesVeiled
namespace Go.Proofs.YtfhidiedmenliaaGreatDoor
open Go.RowKit

set_option maxHeartbeats 8000000 in
theorem combine1 (p : Option Addr) (ca : Nat) (a : List Bur.Sp) (q : Option Addr) (cb : Nat) (b : List Bur.Sp) (w : World) (hla : a.length ≤ 9223372036854775807) (hlb : b.length ≤ 9223372036854775807) (ha : SpAt w p a) (hb : SpAt w q b) :
    Calls Tryz.prog 37 #[.slice p a.length ca, .slice q b.length cb, .func (.func 39) #[] #[]] w fun e w' => ∃ (r : Option Addr) (cr : Nat), e = .returned (.tuple #[.slice r (Bur.twS 1 a b).length cr, ev (Bur.twF 1 a b)]) ∧ SpAt w' r (Bur.twS 1 a b) ∧ Below w.heap.size w w' := by
  have hb0 : Below w.heap.size w (w.alloc (.cells #[.func (.func 39) #[] #[]] 71)) := below_al (below_self _) _
  have hk0 : (w.alloc (.cells #[.func (.func 39) #[] #[]] 71)).cell? ⟨w.heap.size, 0, none⟩ = some (.func (.func 39) #[] #[]) := by simp
  have ha0 := ha.step hb0
  have hb0' := hb.step hb0
  by_cases fa : Bur.setF a = 0
  · have eva : Hid (ev (Bur.setF a) = .nilIface) := by show _ = _; rw [fa]; rfl
    by_cases fb : Bur.setF b = 0
    · have evb : Hid (ev (Bur.setF b) = .nilIface) := by show _ = _; rw [fb]; rfl
      have oka := Bur.setF_ok fa
      have okb := Bur.setF_ok fb
      have hIn : Bur.InA (a ++ b) := fun s hs => (List.mem_append.1 hs).elim (oka.2.2 s) (okb.2.2 s)
      have h64a := oka.1
      have h64b := okb.1
      have F1 : Hid (Bur.twF 1 a b = if 64 < (Bur.two 1 a b).length then 3 else 0) := by show _ = _; simp only [Bur.twF, fa, fb, if_true]
      clear fa fb ha hb oka okb
      go_enter Tryz.func37, Tryz.ntmps37
      go_wp2_with fail
      generalize w.alloc (.cells #[.func (.func 39) #[] #[]] 71) = W0 at *
      refine (check p ca a _ hla ha0).mono ?_; rintro e w1 ⟨rfl, hb1⟩; rw [eva.out]
      replace ha0 := ha0.step hb1
      replace hb0' := hb0'.step hb1
      replace hk0 := (hb1.cell (World.block_lt_of_cell? _ _ hk0)).trans hk0
      replace hb0 := below_via hb0 hb1
      clear hb1 eva
      go_wp2_with fail
      refine (check q cb b _ hlb hb0').mono ?_; rintro e w2 ⟨rfl, hb1⟩; rw [evb.out]
      replace ha0 := ha0.step hb1
      replace hb0' := hb0'.step hb1
      replace hk0 := (hb1.cell (World.block_lt_of_cell? _ _ hk0)).trans hk0
      replace hb0 := below_via hb0 hb1
      clear hb1 evb
      go_wp2_with fail
      refine (asker p ca a w2 hla ha0).mono ?_; rintro e w3 ⟨qa, rfl, hqa, hb1⟩
      replace ha0 := ha0.step hb1
      replace hb0' := hb0'.step hb1
      replace hk0 := (hb1.cell (World.block_lt_of_cell? _ _ hk0)).trans hk0
      replace hb0 := below_via hb0 hb1
      clear hb1
      go_wp2_with fail
      refine (asker q cb b w3 hlb hb0').mono ?_; rintro e w4 ⟨qb, rfl, hqb, hb1⟩
      replace ha0 := ha0.step hb1
      replace hb0' := hb0'.step hb1
      replace hqa := hqa.step hb1
      replace hk0 := (hb1.cell (World.block_lt_of_cell? _ _ hk0)).trans hk0
      replace hb0 := below_via hb0 hb1
      clear hb1
      have b1 : Below w4.heap.size w4 (w4.alloc (.cells #[.func (.func 66) #[] #[.pointer (some qa)]] 72)) := below_al (below_self _) _
      have b2 : Below w4.heap.size w4 ((w4.alloc (.cells #[.func (.func 66) #[] #[.pointer (some qa)]] 72)).alloc (.cells #[.func (.func 66) #[] #[.pointer (some qb)]] 72)) := below_al b1 _
      have b3 : Below w4.heap.size w4 (((w4.alloc (.cells #[.func (.func 66) #[] #[.pointer (some qa)]] 72)).alloc (.cells #[.func (.func 66) #[] #[.pointer (some qb)]] 72)).alloc (.cells #[.slice p a.length ca, .slice q b.length cb] 27)) := below_al b2 _
      have i1 : (((w4.alloc (.cells #[.func (.func 66) #[] #[.pointer (some qa)]] 72)).alloc (.cells #[.func (.func 66) #[] #[.pointer (some qb)]] 72)).alloc (.cells #[.slice p a.length ca, .slice q b.length cb] 27)).cell? ⟨w4.heap.size, 0, none⟩ = some (.func (.func 66) #[] #[.pointer (some qa)]) := by
        rw [World.cell?_alloc_lt _ _ _ (by simp; omega), World.cell?_alloc_lt _ _ _ (by simp)]; simp
      have i2 : (((w4.alloc (.cells #[.func (.func 66) #[] #[.pointer (some qa)]] 72)).alloc (.cells #[.func (.func 66) #[] #[.pointer (some qb)]] 72)).alloc (.cells #[.slice p a.length ca, .slice q b.length cb] 27)).cell? ⟨w4.heap.size + 1, 0, none⟩ = some (.func (.func 66) #[] #[.pointer (some qb)]) := by
        rw [World.cell?_alloc_lt _ _ _ (by simp)]; simp
      have i3 : (((w4.alloc (.cells #[.func (.func 66) #[] #[.pointer (some qa)]] 72)).alloc (.cells #[.func (.func 66) #[] #[.pointer (some qb)]] 72)).alloc (.cells #[.slice p a.length ca, .slice q b.length cb] 27)).cell? ⟨w4.heap.size + 1 + 1, 0, none⟩ = some (.slice p a.length ca) := by rw [World.cell?_alloc_at _ _ _ _ (by simp)]; rfl
      have i4 : (((w4.alloc (.cells #[.func (.func 66) #[] #[.pointer (some qa)]] 72)).alloc (.cells #[.func (.func 66) #[] #[.pointer (some qb)]] 72)).alloc (.cells #[.slice p a.length ca, .slice q b.length cb] 27)).cell? ⟨w4.heap.size + 1 + 1, 1, none⟩ = some (.slice q b.length cb) := by rw [World.cell?_alloc_at _ _ _ _ (by simp)]; rfl
      have i5 : w4.heap.size + 1 + 1 < (((w4.alloc (.cells #[.func (.func 66) #[] #[.pointer (some qa)]] 72)).alloc (.cells #[.func (.func 66) #[] #[.pointer (some qb)]] 72)).alloc (.cells #[.slice p a.length ca, .slice q b.length cb] 27)).heap.size := by simp
      go_wp2_with fail
      generalize (((w4.alloc (.cells #[.func (.func 66) #[] #[.pointer (some qa)]] 72)).alloc (.cells #[.func (.func 66) #[] #[.pointer (some qb)]] 72)).alloc (.cells #[.slice p a.length ca, .slice q b.length cb] 27)) = W5 at *
      have hcl : Cl W5 39 ⟨w.heap.size, 0, none⟩ ⟨w4.heap.size, 0, none⟩ ⟨w4.heap.size + 1, 0, none⟩ qa qb a b := ⟨(b3.cell (World.block_lt_of_cell? _ _ hk0)).trans hk0, i1, i2, hqa.step b3, hqb.step b3⟩
      have hL : LsAt W5 (w4.heap.size + 1 + 1) [(p, ca, a), (q, cb, b)] := ⟨i5, fun j x hx => by
        match j, hx with
        | 0, hx => simp at hx; subst hx; exact ⟨i3, ha0.step b3, h64a⟩
        | 1, hx => simp at hx; subst hx; exact ⟨i4, hb0'.step b3, h64b⟩⟩
      replace hb0 := below_via hb0 b3
      clear b1 b2 b3 i1 i2 i3 i4 i5 ha0 hb0' hk0 hqa hqb
      refine (edges (w4.heap.size + 1 + 1) 2 [(p, ca, a), (q, cb, b)] W5 (by simp) hL (by rw [cat2]; exact hIn)).mono ?_
      rintro e w6 ⟨q6, cap6, rfl, hq6, hb6⟩
      rw [cat2, Bur.edg_append] at hq6
      rw [cat2, Bur.edg_append]
      replace hcl := hcl.step hb6
      replace hb0 := below_via hb0 hb6
      clear hL hb6
      have hBz : ∀ z ∈ Bur.srt (Bur.edg a ++ Bur.edg b), 0 ≤ z ∧ z ≤ 4294967296 := fun z hz => Bur.edg_pos hIn z (by rw [Bur.edg_append]; exact (Bur.mem_srt _ _).1 hz)
      have hLz : (Bur.srt (Bur.edg a ++ Bur.edg b)).length ≤ 1000000 := by rw [Bur.srt_len, List.length_append, Bur.edg_len, Bur.edg_len]; omega
      go_wp2_with fail
      refine (gather2 (fun x => Bur.kp 1 (Bur.mem a x) (Bur.mem b x)) q6 cap6 (Bur.srt (Bur.edg a ++ Bur.edg b)) ⟨w.heap.size, 0, none⟩ ⟨w4.heap.size, 0, none⟩ ⟨w4.heap.size + 1, 0, none⟩ w6 hLz hq6 hBz (fun x w1 h1 => ask1 x _ _ _ qa qb a b w1 (hcl.step h1))).mono ?_
      rintro e w7 ⟨q7, cap7, rfl, hq7, hb7⟩
      change SpAt w7 q7 (Bur.two 1 a b) at hq7
      have hT : Hid (Bur.gt (fun x => Bur.kp 1 (Bur.mem a x) (Bur.mem b x)) none (Bur.srt (Bur.edg a ++ Bur.edg b)) = Bur.two 1 a b) := rfl
      rw [hT.out]
      clear hT
      replace hb0 := below_via hb0 hb7
      clear hcl hb7 hq6 hBz hLz
      generalize hm : Bur.two 1 a b = m at *
      have HM : Hid (Bur.two 1 a b = m) := hm
      clear hm
      by_cases h64 : 64 < m.length
      · have F2 : Hid (Bur.twF 1 a b = 3) := by show _ = _; rw [F1.out, if_pos h64]
        have F3 : Hid (Bur.twS 1 a b = []) := if_neg (by rw [F2.out]; decide)
        clear F1
        go_wp2_with fail
        go_ret2
        rw [F2.out, F3.out]
        exact ⟨none, 0, rfl, SpAt.nil _ _, hb0⟩
      · have F2 : Hid (Bur.twF 1 a b = 0) := by show _ = _; rw [F1.out, if_neg h64]
        have F3 : Hid (Bur.twS 1 a b = m) := by show _ = _; unfold Bur.twS; rw [if_pos F2.out, HM.out]
        clear F1
        go_wp2_with fail
        go_ret2
        rw [F2.out, F3.out]
        exact ⟨q7, cap7, rfl, hq7, hb0⟩
    · have E : Bur.twF 1 a b = Bur.setF b := by simp [Bur.twF, fa, fb]
      have E2 : Bur.twS 1 a b = [] := if_neg (by rw [E]; exact fb)
      have evb : Hid (ev (Bur.setF b) = errN (Bur.setF b)) := if_neg fb
      rw [E, E2]
      clear fa E E2 ha hb
      go_enter Tryz.func37, Tryz.ntmps37
      go_wp2_with fail
      generalize w.alloc (.cells #[.func (.func 39) #[] #[]] 71) = W0 at *
      refine (check p ca a _ hla ha0).mono ?_; rintro e w1 ⟨rfl, hb1⟩; rw [eva.out]
      go_wp2_with fail
      refine (check q cb b _ hlb (hb0'.step hb1)).mono ?_; rintro e w2 ⟨rfl, hb2⟩; rw [evb.out]
      go_wp2_with fail
      go_ret2
      exact ⟨none, 0, by rw [evb.out]; rfl, SpAt.nil _ _, below_via (below_via hb0 hb1) hb2⟩
  · have E : Bur.twF 1 a b = Bur.setF a := by simp [Bur.twF, fa]
    have E2 : Bur.twS 1 a b = [] := if_neg (by rw [E]; exact fa)
    have eva : Hid (ev (Bur.setF a) = errN (Bur.setF a)) := if_neg fa
    rw [E, E2]
    clear E E2 ha hb hb0'
    go_enter Tryz.func37, Tryz.ntmps37
    go_wp2_with fail
    generalize w.alloc (.cells #[.func (.func 39) #[] #[]] 71) = W0 at *
    refine (check p ca a _ hla ha0).mono ?_; rintro e w1 ⟨rfl, hb1⟩; rw [eva.out]
    go_wp2_with fail
    go_ret2
    exact ⟨none, 0, by rw [eva.out]; rfl, SpAt.nil _ _, below_via hb0 hb1⟩

theorem spanUnion (p : Option Addr) (ca : Nat) (a : List Bur.Sp) (q : Option Addr) (cb : Nat) (b : List Bur.Sp) (w : World) (hla : a.length ≤ 9223372036854775807) (hlb : b.length ≤ 9223372036854775807) (ha : SpAt w p a) (hb : SpAt w q b) :
    Calls Tryz.prog 21 #[.slice p a.length ca, .slice q b.length cb] w fun e w' => ∃ (r : Option Addr) (cr : Nat), e = .returned (.tuple #[.slice r (Bur.twS 1 a b).length cr, ev (Bur.twF 1 a b)]) ∧ SpAt w' r (Bur.twS 1 a b) ∧ Below w.heap.size w w' := by
  go_enter Tryz.func21, Tryz.ntmps21
  go_wp2_with fail
  refine (combine1 p ca a q cb b w hla hlb ha hb).mono ?_
  rintro e w1 ⟨r, cr, rfl, h1, hb1⟩
  go_wp2_with fail
  go_ret2
  exact ⟨r, cr, rfl, h1, hb1⟩

set_option maxHeartbeats 8000000 in
theorem combine2 (p : Option Addr) (ca : Nat) (a : List Bur.Sp) (q : Option Addr) (cb : Nat) (b : List Bur.Sp) (w : World) (hla : a.length ≤ 9223372036854775807) (hlb : b.length ≤ 9223372036854775807) (ha : SpAt w p a) (hb : SpAt w q b) :
    Calls Tryz.prog 37 #[.slice p a.length ca, .slice q b.length cb, .func (.func 38) #[] #[]] w fun e w' => ∃ (r : Option Addr) (cr : Nat), e = .returned (.tuple #[.slice r (Bur.twS 2 a b).length cr, ev (Bur.twF 2 a b)]) ∧ SpAt w' r (Bur.twS 2 a b) ∧ Below w.heap.size w w' := by
  have hb0 : Below w.heap.size w (w.alloc (.cells #[.func (.func 38) #[] #[]] 71)) := below_al (below_self _) _
  have hk0 : (w.alloc (.cells #[.func (.func 38) #[] #[]] 71)).cell? ⟨w.heap.size, 0, none⟩ = some (.func (.func 38) #[] #[]) := by simp
  have ha0 := ha.step hb0
  have hb0' := hb.step hb0
  by_cases fa : Bur.setF a = 0
  · have eva : Hid (ev (Bur.setF a) = .nilIface) := by show _ = _; rw [fa]; rfl
    by_cases fb : Bur.setF b = 0
    · have evb : Hid (ev (Bur.setF b) = .nilIface) := by show _ = _; rw [fb]; rfl
      have oka := Bur.setF_ok fa
      have okb := Bur.setF_ok fb
      have hIn : Bur.InA (a ++ b) := fun s hs => (List.mem_append.1 hs).elim (oka.2.2 s) (okb.2.2 s)
      have h64a := oka.1
      have h64b := okb.1
      have F1 : Hid (Bur.twF 2 a b = if 64 < (Bur.two 2 a b).length then 3 else 0) := by show _ = _; simp only [Bur.twF, fa, fb, if_true]
      clear fa fb ha hb oka okb
      go_enter Tryz.func37, Tryz.ntmps37
      go_wp2_with fail
      generalize w.alloc (.cells #[.func (.func 38) #[] #[]] 71) = W0 at *
      refine (check p ca a _ hla ha0).mono ?_; rintro e w1 ⟨rfl, hb1⟩; rw [eva.out]
      replace ha0 := ha0.step hb1
      replace hb0' := hb0'.step hb1
      replace hk0 := (hb1.cell (World.block_lt_of_cell? _ _ hk0)).trans hk0
      replace hb0 := below_via hb0 hb1
      clear hb1 eva
      go_wp2_with fail
      refine (check q cb b _ hlb hb0').mono ?_; rintro e w2 ⟨rfl, hb1⟩; rw [evb.out]
      replace ha0 := ha0.step hb1
      replace hb0' := hb0'.step hb1
      replace hk0 := (hb1.cell (World.block_lt_of_cell? _ _ hk0)).trans hk0
      replace hb0 := below_via hb0 hb1
      clear hb1 evb
      go_wp2_with fail
      refine (asker p ca a w2 hla ha0).mono ?_; rintro e w3 ⟨qa, rfl, hqa, hb1⟩
      replace ha0 := ha0.step hb1
      replace hb0' := hb0'.step hb1
      replace hk0 := (hb1.cell (World.block_lt_of_cell? _ _ hk0)).trans hk0
      replace hb0 := below_via hb0 hb1
      clear hb1
      go_wp2_with fail
      refine (asker q cb b w3 hlb hb0').mono ?_; rintro e w4 ⟨qb, rfl, hqb, hb1⟩
      replace ha0 := ha0.step hb1
      replace hb0' := hb0'.step hb1
      replace hqa := hqa.step hb1
      replace hk0 := (hb1.cell (World.block_lt_of_cell? _ _ hk0)).trans hk0
      replace hb0 := below_via hb0 hb1
      clear hb1
      have b1 : Below w4.heap.size w4 (w4.alloc (.cells #[.func (.func 66) #[] #[.pointer (some qa)]] 72)) := below_al (below_self _) _
      have b2 : Below w4.heap.size w4 ((w4.alloc (.cells #[.func (.func 66) #[] #[.pointer (some qa)]] 72)).alloc (.cells #[.func (.func 66) #[] #[.pointer (some qb)]] 72)) := below_al b1 _
      have b3 : Below w4.heap.size w4 (((w4.alloc (.cells #[.func (.func 66) #[] #[.pointer (some qa)]] 72)).alloc (.cells #[.func (.func 66) #[] #[.pointer (some qb)]] 72)).alloc (.cells #[.slice p a.length ca, .slice q b.length cb] 27)) := below_al b2 _
      have i1 : (((w4.alloc (.cells #[.func (.func 66) #[] #[.pointer (some qa)]] 72)).alloc (.cells #[.func (.func 66) #[] #[.pointer (some qb)]] 72)).alloc (.cells #[.slice p a.length ca, .slice q b.length cb] 27)).cell? ⟨w4.heap.size, 0, none⟩ = some (.func (.func 66) #[] #[.pointer (some qa)]) := by
        rw [World.cell?_alloc_lt _ _ _ (by simp; omega), World.cell?_alloc_lt _ _ _ (by simp)]; simp
      have i2 : (((w4.alloc (.cells #[.func (.func 66) #[] #[.pointer (some qa)]] 72)).alloc (.cells #[.func (.func 66) #[] #[.pointer (some qb)]] 72)).alloc (.cells #[.slice p a.length ca, .slice q b.length cb] 27)).cell? ⟨w4.heap.size + 1, 0, none⟩ = some (.func (.func 66) #[] #[.pointer (some qb)]) := by
        rw [World.cell?_alloc_lt _ _ _ (by simp)]; simp
      have i3 : (((w4.alloc (.cells #[.func (.func 66) #[] #[.pointer (some qa)]] 72)).alloc (.cells #[.func (.func 66) #[] #[.pointer (some qb)]] 72)).alloc (.cells #[.slice p a.length ca, .slice q b.length cb] 27)).cell? ⟨w4.heap.size + 1 + 1, 0, none⟩ = some (.slice p a.length ca) := by rw [World.cell?_alloc_at _ _ _ _ (by simp)]; rfl
      have i4 : (((w4.alloc (.cells #[.func (.func 66) #[] #[.pointer (some qa)]] 72)).alloc (.cells #[.func (.func 66) #[] #[.pointer (some qb)]] 72)).alloc (.cells #[.slice p a.length ca, .slice q b.length cb] 27)).cell? ⟨w4.heap.size + 1 + 1, 1, none⟩ = some (.slice q b.length cb) := by rw [World.cell?_alloc_at _ _ _ _ (by simp)]; rfl
      have i5 : w4.heap.size + 1 + 1 < (((w4.alloc (.cells #[.func (.func 66) #[] #[.pointer (some qa)]] 72)).alloc (.cells #[.func (.func 66) #[] #[.pointer (some qb)]] 72)).alloc (.cells #[.slice p a.length ca, .slice q b.length cb] 27)).heap.size := by simp
      go_wp2_with fail
      generalize (((w4.alloc (.cells #[.func (.func 66) #[] #[.pointer (some qa)]] 72)).alloc (.cells #[.func (.func 66) #[] #[.pointer (some qb)]] 72)).alloc (.cells #[.slice p a.length ca, .slice q b.length cb] 27)) = W5 at *
      have hcl : Cl W5 38 ⟨w.heap.size, 0, none⟩ ⟨w4.heap.size, 0, none⟩ ⟨w4.heap.size + 1, 0, none⟩ qa qb a b := ⟨(b3.cell (World.block_lt_of_cell? _ _ hk0)).trans hk0, i1, i2, hqa.step b3, hqb.step b3⟩
      have hL : LsAt W5 (w4.heap.size + 1 + 1) [(p, ca, a), (q, cb, b)] := ⟨i5, fun j x hx => by
        match j, hx with
        | 0, hx => simp at hx; subst hx; exact ⟨i3, ha0.step b3, h64a⟩
        | 1, hx => simp at hx; subst hx; exact ⟨i4, hb0'.step b3, h64b⟩⟩
      replace hb0 := below_via hb0 b3
      clear b1 b2 b3 i1 i2 i3 i4 i5 ha0 hb0' hk0 hqa hqb
      refine (edges (w4.heap.size + 1 + 1) 2 [(p, ca, a), (q, cb, b)] W5 (by simp) hL (by rw [cat2]; exact hIn)).mono ?_
      rintro e w6 ⟨q6, cap6, rfl, hq6, hb6⟩
      rw [cat2, Bur.edg_append] at hq6
      rw [cat2, Bur.edg_append]
      replace hcl := hcl.step hb6
      replace hb0 := below_via hb0 hb6
      clear hL hb6
      have hBz : ∀ z ∈ Bur.srt (Bur.edg a ++ Bur.edg b), 0 ≤ z ∧ z ≤ 4294967296 := fun z hz => Bur.edg_pos hIn z (by rw [Bur.edg_append]; exact (Bur.mem_srt _ _).1 hz)
      have hLz : (Bur.srt (Bur.edg a ++ Bur.edg b)).length ≤ 1000000 := by rw [Bur.srt_len, List.length_append, Bur.edg_len, Bur.edg_len]; omega
      go_wp2_with fail
      refine (gather2 (fun x => Bur.kp 2 (Bur.mem a x) (Bur.mem b x)) q6 cap6 (Bur.srt (Bur.edg a ++ Bur.edg b)) ⟨w.heap.size, 0, none⟩ ⟨w4.heap.size, 0, none⟩ ⟨w4.heap.size + 1, 0, none⟩ w6 hLz hq6 hBz (fun x w1 h1 => ask2 x _ _ _ qa qb a b w1 (hcl.step h1))).mono ?_
      rintro e w7 ⟨q7, cap7, rfl, hq7, hb7⟩
      change SpAt w7 q7 (Bur.two 2 a b) at hq7
      have hT : Hid (Bur.gt (fun x => Bur.kp 2 (Bur.mem a x) (Bur.mem b x)) none (Bur.srt (Bur.edg a ++ Bur.edg b)) = Bur.two 2 a b) := rfl
      rw [hT.out]
      clear hT
      replace hb0 := below_via hb0 hb7
      clear hcl hb7 hq6 hBz hLz
      generalize hm : Bur.two 2 a b = m at *
      have HM : Hid (Bur.two 2 a b = m) := hm
      clear hm
      by_cases h64 : 64 < m.length
      · have F2 : Hid (Bur.twF 2 a b = 3) := by show _ = _; rw [F1.out, if_pos h64]
        have F3 : Hid (Bur.twS 2 a b = []) := if_neg (by rw [F2.out]; decide)
        clear F1
        go_wp2_with fail
        go_ret2
        rw [F2.out, F3.out]
        exact ⟨none, 0, rfl, SpAt.nil _ _, hb0⟩
      · have F2 : Hid (Bur.twF 2 a b = 0) := by show _ = _; rw [F1.out, if_neg h64]
        have F3 : Hid (Bur.twS 2 a b = m) := by show _ = _; unfold Bur.twS; rw [if_pos F2.out, HM.out]
        clear F1
        go_wp2_with fail
        go_ret2
        rw [F2.out, F3.out]
        exact ⟨q7, cap7, rfl, hq7, hb0⟩
    · have E : Bur.twF 2 a b = Bur.setF b := by simp [Bur.twF, fa, fb]
      have E2 : Bur.twS 2 a b = [] := if_neg (by rw [E]; exact fb)
      have evb : Hid (ev (Bur.setF b) = errN (Bur.setF b)) := if_neg fb
      rw [E, E2]
      clear fa E E2 ha hb
      go_enter Tryz.func37, Tryz.ntmps37
      go_wp2_with fail
      generalize w.alloc (.cells #[.func (.func 38) #[] #[]] 71) = W0 at *
      refine (check p ca a _ hla ha0).mono ?_; rintro e w1 ⟨rfl, hb1⟩; rw [eva.out]
      go_wp2_with fail
      refine (check q cb b _ hlb (hb0'.step hb1)).mono ?_; rintro e w2 ⟨rfl, hb2⟩; rw [evb.out]
      go_wp2_with fail
      go_ret2
      exact ⟨none, 0, by rw [evb.out]; rfl, SpAt.nil _ _, below_via (below_via hb0 hb1) hb2⟩
  · have E : Bur.twF 2 a b = Bur.setF a := by simp [Bur.twF, fa]
    have E2 : Bur.twS 2 a b = [] := if_neg (by rw [E]; exact fa)
    have eva : Hid (ev (Bur.setF a) = errN (Bur.setF a)) := if_neg fa
    rw [E, E2]
    clear E E2 ha hb hb0'
    go_enter Tryz.func37, Tryz.ntmps37
    go_wp2_with fail
    generalize w.alloc (.cells #[.func (.func 38) #[] #[]] 71) = W0 at *
    refine (check p ca a _ hla ha0).mono ?_; rintro e w1 ⟨rfl, hb1⟩; rw [eva.out]
    go_wp2_with fail
    go_ret2
    exact ⟨none, 0, by rw [eva.out]; rfl, SpAt.nil _ _, below_via hb0 hb1⟩

theorem spanMeet (p : Option Addr) (ca : Nat) (a : List Bur.Sp) (q : Option Addr) (cb : Nat) (b : List Bur.Sp) (w : World) (hla : a.length ≤ 9223372036854775807) (hlb : b.length ≤ 9223372036854775807) (ha : SpAt w p a) (hb : SpAt w q b) :
    Calls Tryz.prog 20 #[.slice p a.length ca, .slice q b.length cb] w fun e w' => ∃ (r : Option Addr) (cr : Nat), e = .returned (.tuple #[.slice r (Bur.twS 2 a b).length cr, ev (Bur.twF 2 a b)]) ∧ SpAt w' r (Bur.twS 2 a b) ∧ Below w.heap.size w w' := by
  go_enter Tryz.func20, Tryz.ntmps20
  go_wp2_with fail
  refine (combine2 p ca a q cb b w hla hlb ha hb).mono ?_
  rintro e w1 ⟨r, cr, rfl, h1, hb1⟩
  go_wp2_with fail
  go_ret2
  exact ⟨r, cr, rfl, h1, hb1⟩

set_option maxHeartbeats 8000000 in
theorem combine3 (p : Option Addr) (ca : Nat) (a : List Bur.Sp) (q : Option Addr) (cb : Nat) (b : List Bur.Sp) (w : World) (hla : a.length ≤ 9223372036854775807) (hlb : b.length ≤ 9223372036854775807) (ha : SpAt w p a) (hb : SpAt w q b) :
    Calls Tryz.prog 37 #[.slice p a.length ca, .slice q b.length cb, .func (.func 44) #[] #[]] w fun e w' => ∃ (r : Option Addr) (cr : Nat), e = .returned (.tuple #[.slice r (Bur.twS 3 a b).length cr, ev (Bur.twF 3 a b)]) ∧ SpAt w' r (Bur.twS 3 a b) ∧ Below w.heap.size w w' := by
  have hb0 : Below w.heap.size w (w.alloc (.cells #[.func (.func 44) #[] #[]] 71)) := below_al (below_self _) _
  have hk0 : (w.alloc (.cells #[.func (.func 44) #[] #[]] 71)).cell? ⟨w.heap.size, 0, none⟩ = some (.func (.func 44) #[] #[]) := by simp
  have ha0 := ha.step hb0
  have hb0' := hb.step hb0
  by_cases fa : Bur.setF a = 0
  · have eva : Hid (ev (Bur.setF a) = .nilIface) := by show _ = _; rw [fa]; rfl
    by_cases fb : Bur.setF b = 0
    · have evb : Hid (ev (Bur.setF b) = .nilIface) := by show _ = _; rw [fb]; rfl
      have oka := Bur.setF_ok fa
      have okb := Bur.setF_ok fb
      have hIn : Bur.InA (a ++ b) := fun s hs => (List.mem_append.1 hs).elim (oka.2.2 s) (okb.2.2 s)
      have h64a := oka.1
      have h64b := okb.1
      have F1 : Hid (Bur.twF 3 a b = if 64 < (Bur.two 3 a b).length then 3 else 0) := by show _ = _; simp only [Bur.twF, fa, fb, if_true]
      clear fa fb ha hb oka okb
      go_enter Tryz.func37, Tryz.ntmps37
      go_wp2_with fail
      generalize w.alloc (.cells #[.func (.func 44) #[] #[]] 71) = W0 at *
      refine (check p ca a _ hla ha0).mono ?_; rintro e w1 ⟨rfl, hb1⟩; rw [eva.out]
      replace ha0 := ha0.step hb1
      replace hb0' := hb0'.step hb1
      replace hk0 := (hb1.cell (World.block_lt_of_cell? _ _ hk0)).trans hk0
      replace hb0 := below_via hb0 hb1
      clear hb1 eva
      go_wp2_with fail
      refine (check q cb b _ hlb hb0').mono ?_; rintro e w2 ⟨rfl, hb1⟩; rw [evb.out]
      replace ha0 := ha0.step hb1
      replace hb0' := hb0'.step hb1
      replace hk0 := (hb1.cell (World.block_lt_of_cell? _ _ hk0)).trans hk0
      replace hb0 := below_via hb0 hb1
      clear hb1 evb
      go_wp2_with fail
      refine (asker p ca a w2 hla ha0).mono ?_; rintro e w3 ⟨qa, rfl, hqa, hb1⟩
      replace ha0 := ha0.step hb1
      replace hb0' := hb0'.step hb1
      replace hk0 := (hb1.cell (World.block_lt_of_cell? _ _ hk0)).trans hk0
      replace hb0 := below_via hb0 hb1
      clear hb1
      go_wp2_with fail
      refine (asker q cb b w3 hlb hb0').mono ?_; rintro e w4 ⟨qb, rfl, hqb, hb1⟩
      replace ha0 := ha0.step hb1
      replace hb0' := hb0'.step hb1
      replace hqa := hqa.step hb1
      replace hk0 := (hb1.cell (World.block_lt_of_cell? _ _ hk0)).trans hk0
      replace hb0 := below_via hb0 hb1
      clear hb1
      have b1 : Below w4.heap.size w4 (w4.alloc (.cells #[.func (.func 66) #[] #[.pointer (some qa)]] 72)) := below_al (below_self _) _
      have b2 : Below w4.heap.size w4 ((w4.alloc (.cells #[.func (.func 66) #[] #[.pointer (some qa)]] 72)).alloc (.cells #[.func (.func 66) #[] #[.pointer (some qb)]] 72)) := below_al b1 _
      have b3 : Below w4.heap.size w4 (((w4.alloc (.cells #[.func (.func 66) #[] #[.pointer (some qa)]] 72)).alloc (.cells #[.func (.func 66) #[] #[.pointer (some qb)]] 72)).alloc (.cells #[.slice p a.length ca, .slice q b.length cb] 27)) := below_al b2 _
      have i1 : (((w4.alloc (.cells #[.func (.func 66) #[] #[.pointer (some qa)]] 72)).alloc (.cells #[.func (.func 66) #[] #[.pointer (some qb)]] 72)).alloc (.cells #[.slice p a.length ca, .slice q b.length cb] 27)).cell? ⟨w4.heap.size, 0, none⟩ = some (.func (.func 66) #[] #[.pointer (some qa)]) := by
        rw [World.cell?_alloc_lt _ _ _ (by simp; omega), World.cell?_alloc_lt _ _ _ (by simp)]; simp
      have i2 : (((w4.alloc (.cells #[.func (.func 66) #[] #[.pointer (some qa)]] 72)).alloc (.cells #[.func (.func 66) #[] #[.pointer (some qb)]] 72)).alloc (.cells #[.slice p a.length ca, .slice q b.length cb] 27)).cell? ⟨w4.heap.size + 1, 0, none⟩ = some (.func (.func 66) #[] #[.pointer (some qb)]) := by
        rw [World.cell?_alloc_lt _ _ _ (by simp)]; simp
      have i3 : (((w4.alloc (.cells #[.func (.func 66) #[] #[.pointer (some qa)]] 72)).alloc (.cells #[.func (.func 66) #[] #[.pointer (some qb)]] 72)).alloc (.cells #[.slice p a.length ca, .slice q b.length cb] 27)).cell? ⟨w4.heap.size + 1 + 1, 0, none⟩ = some (.slice p a.length ca) := by rw [World.cell?_alloc_at _ _ _ _ (by simp)]; rfl
      have i4 : (((w4.alloc (.cells #[.func (.func 66) #[] #[.pointer (some qa)]] 72)).alloc (.cells #[.func (.func 66) #[] #[.pointer (some qb)]] 72)).alloc (.cells #[.slice p a.length ca, .slice q b.length cb] 27)).cell? ⟨w4.heap.size + 1 + 1, 1, none⟩ = some (.slice q b.length cb) := by rw [World.cell?_alloc_at _ _ _ _ (by simp)]; rfl
      have i5 : w4.heap.size + 1 + 1 < (((w4.alloc (.cells #[.func (.func 66) #[] #[.pointer (some qa)]] 72)).alloc (.cells #[.func (.func 66) #[] #[.pointer (some qb)]] 72)).alloc (.cells #[.slice p a.length ca, .slice q b.length cb] 27)).heap.size := by simp
      go_wp2_with fail
      generalize (((w4.alloc (.cells #[.func (.func 66) #[] #[.pointer (some qa)]] 72)).alloc (.cells #[.func (.func 66) #[] #[.pointer (some qb)]] 72)).alloc (.cells #[.slice p a.length ca, .slice q b.length cb] 27)) = W5 at *
      have hcl : Cl W5 44 ⟨w.heap.size, 0, none⟩ ⟨w4.heap.size, 0, none⟩ ⟨w4.heap.size + 1, 0, none⟩ qa qb a b := ⟨(b3.cell (World.block_lt_of_cell? _ _ hk0)).trans hk0, i1, i2, hqa.step b3, hqb.step b3⟩
      have hL : LsAt W5 (w4.heap.size + 1 + 1) [(p, ca, a), (q, cb, b)] := ⟨i5, fun j x hx => by
        match j, hx with
        | 0, hx => simp at hx; subst hx; exact ⟨i3, ha0.step b3, h64a⟩
        | 1, hx => simp at hx; subst hx; exact ⟨i4, hb0'.step b3, h64b⟩⟩
      replace hb0 := below_via hb0 b3
      clear b1 b2 b3 i1 i2 i3 i4 i5 ha0 hb0' hk0 hqa hqb
      refine (edges (w4.heap.size + 1 + 1) 2 [(p, ca, a), (q, cb, b)] W5 (by simp) hL (by rw [cat2]; exact hIn)).mono ?_
      rintro e w6 ⟨q6, cap6, rfl, hq6, hb6⟩
      rw [cat2, Bur.edg_append] at hq6
      rw [cat2, Bur.edg_append]
      replace hcl := hcl.step hb6
      replace hb0 := below_via hb0 hb6
      clear hL hb6
      have hBz : ∀ z ∈ Bur.srt (Bur.edg a ++ Bur.edg b), 0 ≤ z ∧ z ≤ 4294967296 := fun z hz => Bur.edg_pos hIn z (by rw [Bur.edg_append]; exact (Bur.mem_srt _ _).1 hz)
      have hLz : (Bur.srt (Bur.edg a ++ Bur.edg b)).length ≤ 1000000 := by rw [Bur.srt_len, List.length_append, Bur.edg_len, Bur.edg_len]; omega
      go_wp2_with fail
      refine (gather2 (fun x => Bur.kp 3 (Bur.mem a x) (Bur.mem b x)) q6 cap6 (Bur.srt (Bur.edg a ++ Bur.edg b)) ⟨w.heap.size, 0, none⟩ ⟨w4.heap.size, 0, none⟩ ⟨w4.heap.size + 1, 0, none⟩ w6 hLz hq6 hBz (fun x w1 h1 => ask3 x _ _ _ qa qb a b w1 (hcl.step h1))).mono ?_
      rintro e w7 ⟨q7, cap7, rfl, hq7, hb7⟩
      change SpAt w7 q7 (Bur.two 3 a b) at hq7
      have hT : Hid (Bur.gt (fun x => Bur.kp 3 (Bur.mem a x) (Bur.mem b x)) none (Bur.srt (Bur.edg a ++ Bur.edg b)) = Bur.two 3 a b) := rfl
      rw [hT.out]
      clear hT
      replace hb0 := below_via hb0 hb7
      clear hcl hb7 hq6 hBz hLz
      generalize hm : Bur.two 3 a b = m at *
      have HM : Hid (Bur.two 3 a b = m) := hm
      clear hm
      by_cases h64 : 64 < m.length
      · have F2 : Hid (Bur.twF 3 a b = 3) := by show _ = _; rw [F1.out, if_pos h64]
        have F3 : Hid (Bur.twS 3 a b = []) := if_neg (by rw [F2.out]; decide)
        clear F1
        go_wp2_with fail
        go_ret2
        rw [F2.out, F3.out]
        exact ⟨none, 0, rfl, SpAt.nil _ _, hb0⟩
      · have F2 : Hid (Bur.twF 3 a b = 0) := by show _ = _; rw [F1.out, if_neg h64]
        have F3 : Hid (Bur.twS 3 a b = m) := by show _ = _; unfold Bur.twS; rw [if_pos F2.out, HM.out]
        clear F1
        go_wp2_with fail
        go_ret2
        rw [F2.out, F3.out]
        exact ⟨q7, cap7, rfl, hq7, hb0⟩
    · have E : Bur.twF 3 a b = Bur.setF b := by simp [Bur.twF, fa, fb]
      have E2 : Bur.twS 3 a b = [] := if_neg (by rw [E]; exact fb)
      have evb : Hid (ev (Bur.setF b) = errN (Bur.setF b)) := if_neg fb
      rw [E, E2]
      clear fa E E2 ha hb
      go_enter Tryz.func37, Tryz.ntmps37
      go_wp2_with fail
      generalize w.alloc (.cells #[.func (.func 44) #[] #[]] 71) = W0 at *
      refine (check p ca a _ hla ha0).mono ?_; rintro e w1 ⟨rfl, hb1⟩; rw [eva.out]
      go_wp2_with fail
      refine (check q cb b _ hlb (hb0'.step hb1)).mono ?_; rintro e w2 ⟨rfl, hb2⟩; rw [evb.out]
      go_wp2_with fail
      go_ret2
      exact ⟨none, 0, by rw [evb.out]; rfl, SpAt.nil _ _, below_via (below_via hb0 hb1) hb2⟩
  · have E : Bur.twF 3 a b = Bur.setF a := by simp [Bur.twF, fa]
    have E2 : Bur.twS 3 a b = [] := if_neg (by rw [E]; exact fa)
    have eva : Hid (ev (Bur.setF a) = errN (Bur.setF a)) := if_neg fa
    rw [E, E2]
    clear E E2 ha hb hb0'
    go_enter Tryz.func37, Tryz.ntmps37
    go_wp2_with fail
    generalize w.alloc (.cells #[.func (.func 44) #[] #[]] 71) = W0 at *
    refine (check p ca a _ hla ha0).mono ?_; rintro e w1 ⟨rfl, hb1⟩; rw [eva.out]
    go_wp2_with fail
    go_ret2
    exact ⟨none, 0, by rw [eva.out]; rfl, SpAt.nil _ _, below_via hb0 hb1⟩

theorem spanMinus (p : Option Addr) (ca : Nat) (a : List Bur.Sp) (q : Option Addr) (cb : Nat) (b : List Bur.Sp) (w : World) (hla : a.length ≤ 9223372036854775807) (hlb : b.length ≤ 9223372036854775807) (ha : SpAt w p a) (hb : SpAt w q b) :
    Calls Tryz.prog 27 #[.slice p a.length ca, .slice q b.length cb] w fun e w' => ∃ (r : Option Addr) (cr : Nat), e = .returned (.tuple #[.slice r (Bur.twS 3 a b).length cr, ev (Bur.twF 3 a b)]) ∧ SpAt w' r (Bur.twS 3 a b) ∧ Below w.heap.size w w' := by
  go_enter Tryz.func27, Tryz.ntmps27
  go_wp2_with fail
  refine (combine3 p ca a q cb b w hla hlb ha hb).mono ?_
  rintro e w1 ⟨r, cr, rfl, h1, hb1⟩
  go_wp2_with fail
  go_ret2
  exact ⟨r, cr, rfl, h1, hb1⟩
end Go.Proofs.YtfhidiedmenliaaGreatDoor
