/- Package audit: the prefixes of one kind and net; Check. -/
import Derived.Test.YtdjiodikefoliaaDoorCAuF
import Derived.Test.YtdjiodikefoliaaDoorCMC
import Derived.Test.YtdjiodikefoliaaDoorCTrWalkD
namespace Bur
theorem pck_take (L : List Vs.Pr) (c : Int) (n : List UInt8) (k : Nat) (x : Vs.Pr) (h : L[k]? = some x) : pck (L.take (k + 1)) c n = pck (L.take k) c n ++ (pk1 c n x).toList := by
  unfold pck
  rw [List.take_add_one, h, Option.toList_some, List.filterMap_append]
  cases e : pk1 c n x <;> simp [e]
theorem pck_len (L : List Vs.Pr) (c : Int) (n : List UInt8) (k : Nat) : (pck (L.take k) c n).length ≤ k := by
  unfold pck
  refine Nat.le_trans (List.length_filterMap_le _ _) ?_
  simp
  omega
end Bur
namespace Go.Proofs.YtdjiodikefoliaaDoor.Au
open Go.RowKit Go.Maps Pa
open Ta (SpAt spV spAt_own info_pfx tcheck own_below)

theorem sp_new (V : World) (x l : Int) (t : TypeId) : ∀ j u, [Value.int .i64 x, .int .i64 l][j]? = some u → (V.alloc (.cells #[.int .i64 x, .int .i64 l] t)).cell? ⟨V.heap.size, j, none⟩ = some u := by
  intro j u hj
  match j, hj with
  | 0, hj => simp at hj; subst hj; simp
  | 1, hj => simp at hj; subst hj; simp
theorem strE (a b : List UInt8) : ((ByteArray.mk a.toArray).toList == (ByteArray.mk b.toArray).toList) = decide (a = b) := by
  rw [Vs.beq_str]
  exact decide_eq_decide.2 ⟨fun h => by have := congrArg (fun z => z.data.toList) h; simpa using this, fun h => by rw [h]⟩
set_option maxRecDepth 100000 in
set_option maxHeartbeats 4000000 in
theorem auPick (L : List Vs.Pr) (p : Option Addr) (cap : Nat) (c : Int) (n : List UInt8) (w : World) (hp : PrAt w p L) (hl : L.length ≤ 1000) (hk : ∀ x ∈ L, x.1.size < 4294967281) (hm : MaxL w) (hc0 : c ≠ 0) :
    Calls Tryd.prog 19 #[.slice p L.length cap, .int .i64 c, .string ⟨n.toArray⟩] w fun e w' => ∃ v, e = .returned v ∧ w'.ownsRow w.heap.size 24 2 v (Bur.pck L c n).length (spV (Bur.pck L c n)) ∧ Below w.heap.size w w' := by
  go_enter Tryd.func19, Tryd.ntmps19
  go_wp2
  go_loopw [7, 14] (fun v a wr => ∃ (k : Nat) (r : List Bur.Sp), k ≤ L.length ∧ a = .int .i64 k ∧ r.length ≤ k ∧ Hid (r = Bur.pck (L.take k) c n) ∧ wr.ownsRow w.heap.size 24 2 v r.length (spV r) ∧ Below w.heap.size w wr) (fun _ a _ => L.length - (intOf a).toNat)
  case atStart => exact ⟨0, [], by omega, rfl, by simp, (by show _ = _; rfl), World.ownsRow_nil _ _ _ _, below_self _⟩
  case round =>
    obtain ⟨k, r, hkl, rfl, hrk, hM, hrow, hb⟩ := hrel
    by_cases hlt : k < L.length
    · have hlt' : (k : Int) < (L.length : Int) := by omega
      obtain ⟨x, hx⟩ : ∃ x, L[k]? = some x := ⟨L[k], List.getElem?_eq_getElem hlt⟩
      obtain ⟨b, off, rfl, hbl, hc⟩ := (hp.step hb) (by omega)
      obtain ⟨d0, d1⟩ := hc k x hx
      have hkx := hk x (List.mem_of_getElem? hx)
      have hst := Bur.pck_take L c n k x hx
      obtain ⟨W, hW⟩ : ∃ W, W = wr.alloc (.cells #[.string x.1, .string x.2] 47) := ⟨_, rfl⟩
      have bW : Below wr.heap.size wr W := by rw [hW]; exact below_al (below_self _) _
      have rowW := hrow.alloc (.cells #[.string x.1, .string x.2] 47)
      rw [← hW] at rowW
      have KR := auRead x.1.data.toList W (by have : x.1.data.toList.length = x.1.size := Array.length_toList
                                              omega) (hm.step (below_via hb bW))
      rw [show (⟨x.1.data.toList.toArray⟩ : ByteArray) = x.1 from by cases x.1; simp] at KR
      have KR' : Calls Tryd.prog 32 #[.string x.1] W fun e w' => e = .returned (.tuple #[enA (Bur.ek x), enE (Bur.ek x)]) ∧ Below W.heap.size W w' := KR
      clear KR
      cases hE : Bur.ek x with
      | none =>
        rw [hE] at KR'
        have KR2 : Calls Tryd.prog 32 #[.string x.1] W fun e w' => e = .returned (.tuple #[.agg #[.int .i64 0, .string ⟨#[]⟩, .int .i64 0, .int .i64 0], errN 5]) ∧ Below W.heap.size W w' := KR'
        have t1 : Bur.pk1 c n x = none := by unfold Bur.pk1; rw [hE]
        rw [t1, Option.toList_none, List.append_nil, ← hM.out] at hst
        have hM2 : Hid (r = Bur.pck (L.take (k + 1)) c n) := hst.symm
        clear hst hM KR' t1 hE hc hx
        go_wp2_with (go_at_call 32; rw [← hW]; refine KR2.mono ?_; clear KR2; rintro e w3 ⟨rfl, hb3⟩)
        have hb4 := below_al hb3 (.cells #[.int .i64 0, .string ⟨#[]⟩, .int .i64 0, .int .i64 0] 79)
        exact ⟨⟨k + 1, r, by omega, by go_num, by omega, hM2, own_below rowW hb4, below_via (below_via hb bW) hb4⟩, by simp [intOf]; omega⟩
      | some e =>
        obtain ⟨kd, m, q⟩ := e
        rw [hE] at KR'
        have KR2 : Calls Tryd.prog 32 #[.string x.1] W fun e w' => e = .returned (.tuple #[.agg #[.int .i64 kd, .string ⟨m.toArray⟩, .int .i64 q.1, .int .i64 q.2], .nilIface]) ∧ Below W.heap.size W w' := KR'
        clear KR'
        by_cases c1 : kd = c
        · by_cases c2 : m = n
          · subst c1
            subst c2
            have t1 : Bur.pk1 kd m x = some q := Bur.pk1_iff.2 hE
            rw [t1, Option.toList_some, ← hM.out] at hst
            have hM2 : Hid (r ++ [q] = Bur.pck (L.take (k + 1)) kd m) := hst.symm
            have hs1 : ((ByteArray.mk m.toArray).toList == (ByteArray.mk m.toArray).toList) = true := by simp
            have hk1 : (kd == kd) = true := by simp
            clear hst hM t1 hE hc hx
            go_wp2_with (first
              | (go_at_call 32; rw [← hW]; refine KR2.mono ?_; clear KR2; rintro e w3 ⟨rfl, hb3⟩; have hb4 := below_al hb3 (.cells #[.int .i64 kd, .string ⟨m.toArray⟩, .int .i64 q.1, .int .i64 q.2] 79); have row4 := own_below rowW hb4; have bb4 := below_via (below_via hb bW) hb4; have hs4 := bb4.size; have hs5 : w.heap.size ≤ w3.heap.size := (below_via (below_via hb bW) hb3).size)
              | (at_builtin; refine wpList_append_one 33 24 2 16 _ Tryd.underlying33 info_pfx rfl (by decide) (by decide) rfl _ _ rfl w.heap.size _ r.length (spV r) rfl (row4.alloc _) (by simp; omega) _ [.int .i64 q.1, .int .i64 q.2] rfl rfl (fun j u hj => by have := sp_new (w3.alloc (.cells #[.int .i64 kd, .string ⟨m.toArray⟩, .int .i64 q.1, .int .i64 q.2] 79)) q.1 q.2 24 j u hj; simpa using this) (fun u hu => by simp at hu; rcases hu with rfl | rfl <;> rfl) (by omega) ?_; intro v5 w5 own5 hg5; have hb5 : Below w.heap.size w w5 := (bb4.alloc (by simp; omega) _).grown hg5 (by simp; omega) (fun j hj => (row4.lt j hj).1)))
            have own6 : w5.ownsRow w.heap.size 24 2 v5 (r ++ [q]).length (spV (r ++ [q])) := by
              rw [List.length_append, show spV (r ++ [q]) = spV r ++ [.int .i64 q.1, .int .i64 q.2] from by simp [spV]]
              exact own5
            exact ⟨⟨k + 1, r ++ [q], by omega, by go_num, by simp; omega, hM2, own6, hb5⟩, by simp [intOf]; omega⟩
          · subst c1
            have t1 : Bur.pk1 kd n x = none := by unfold Bur.pk1; rw [hE]; exact if_neg (fun g => c2 g.2)
            rw [t1, Option.toList_none, List.append_nil, ← hM.out] at hst
            have hM2 : Hid (r = Bur.pck (L.take (k + 1)) kd n) := hst.symm
            have hs1 : ((ByteArray.mk m.toArray).toList == (ByteArray.mk n.toArray).toList) = false := by rw [strE]; exact decide_eq_false c2
            have hs2 : (m == n) = false := beq_eq_false_iff_ne.2 c2
            have hk1 : (kd == kd) = true := by simp
            clear hst hM t1 hE hc hx
            go_wp2_with (go_at_call 32; rw [← hW]; refine KR2.mono ?_; clear KR2; rintro e w3 ⟨rfl, hb3⟩)
            have hb4 := below_al hb3 (.cells #[.int .i64 kd, .string ⟨m.toArray⟩, .int .i64 q.1, .int .i64 q.2] 79)
            exact ⟨⟨k + 1, r, by omega, by go_num, by omega, hM2, own_below rowW hb4, below_via (below_via hb bW) hb4⟩, by simp [intOf]; omega⟩
        · have t1 : Bur.pk1 c n x = none := by unfold Bur.pk1; rw [hE]; exact if_neg (fun g => c1 g.1)
          rw [t1, Option.toList_none, List.append_nil, ← hM.out] at hst
          have hM2 : Hid (r = Bur.pck (L.take (k + 1)) c n) := hst.symm
          have hk1 : (kd == c) = false := beq_eq_false_iff_ne.2 c1
          clear hst hM t1 hE hc hx
          go_wp2_with (go_at_call 32; rw [← hW]; refine KR2.mono ?_; clear KR2; rintro e w3 ⟨rfl, hb3⟩)
          have hb4 := below_al hb3 (.cells #[.int .i64 kd, .string ⟨m.toArray⟩, .int .i64 q.1, .int .i64 q.2] 79)
          exact ⟨⟨k + 1, r, by omega, by go_num, by omega, hM2, own_below rowW hb4, below_via (below_via hb bW) hb4⟩, by simp [intOf]; omega⟩
    · have hlt' : ¬ (k : Int) < (L.length : Int) := by omega
      have hE : Hid (r = Bur.pck L c n) := by
        have := hM.out
        rw [List.take_of_length_le (by omega)] at this
        exact this
      clear hM
      go_wp2
      go_ret
      exact ⟨_, rfl, by rw [← hE.out]; exact hrow, hb⟩
/-- Check. -/
theorem auCheck (L : List Vs.Pr) (p : Option Addr) (cap : Nat) (w : World) (hp : PrAt w p L) (hl : L.length ≤ 1000) (hk : ∀ x ∈ L, x.1.size < 4294967281) (hm : MaxL w) :
    Calls Tryd.prog 5 #[.slice p L.length cap] w fun e w' => e = .returned (.tuple #[.int .i64 (Bur.auP L).1, ev (Bur.auP L).2]) ∧ Below w.heap.size w w' := by
  have K1 := auLook L p cap w hp hl hk hm
  have K2 := fun a b W hb hg => auChecks L p cap a b W hg (hp.step hb) hl hk (hm.step hb)
  obtain ⟨V, hV⟩ : ∃ V, V = ev (Bur.auP L).2 := ⟨_, rfl⟩
  rw [← hV] at K2 ⊢
  clear hV
  generalize (Bur.auP L).1 = i at K2 ⊢
  go_enter Tryd.func5, Tryd.ntmps5
  go_wp2_with (first
    | (go_at_call 16; refine K1.mono ?_; clear K1; rintro e w1 ⟨a, b, rfl, hg, hb1⟩)
    | (go_at_call 17; refine (K2 a b _ hb1 hg).mono ?_; rintro e w2 ⟨rfl, hb2⟩))
  go_ret2
  exact ⟨rfl, below_via hb1 hb2⟩
end Go.Proofs.YtdjiodikefoliaaDoor.Au
