/- The walk of the law LogKeeps. -/
import Derived.Test.YtcmmjidheglmdaaLgKb
import Derived.Test.YtcmmjidheglmdaaLgSame
import Derived.Deep.CutBlock
namespace Vs
def kv1 : List Chg := [⟨⟨#[107]⟩, ⟨#[118]⟩, false⟩]
theorem kv_ap : apF (lg0 3000) kv1 = 0 ∧ apG (lg0 3000) kv1 = ⟨3000, [kv1], [], 0, -1, false⟩ := by
  have h1 : chF kv1 = 0 := by decide
  have h2 : ¬ (lg0 3000).room < (lg0 3000).by.length + 2 + (encL kv1).length := by decide
  unfold apF apG
  rw [if_pos h1, if_pos h1, if_neg h2, if_neg h2]
  exact ⟨rfl, rfl⟩
theorem kv_cr : crG ⟨3000, [kv1], [], 0, -1, false⟩ 6 = lg0 3000 := by
  have h1 : crN ⟨3000, [kv1], [], 0, -1, false⟩ 6 = 6 := by decide
  have h2 : fitL 6 [kv1] = [] := by decide
  unfold crG
  rw [h1]
  show (⟨3000, fitL 6 [kv1], [], (frs (fitL 6 [kv1])).length, -1, false⟩ : Lg) = _
  rw [h2]; rfl
end Vs
namespace Go.Proofs.Ytcmmjidheglmdaa
open Go.RowKit Vs

set_option maxRecDepth 100000 in
set_option maxHeartbeats 8000000 in
theorem law_keeps {T : Tl} (V : LFace T) (ls : List (List Chg)) (p : Option Addr) (cp : Nat) (s : List Stp) (q : Option Addr) (cq : Nat) (w : World) (hll : ls.length ≤ 9223372036854775807) (hsl : s.length ≤ 9223372036854775807) (hp : LsAt w (fun j => j < w.heap.size) p ls) (hq : StAt w q s) (hsN : ∀ x ∈ s, -9223372036854775808 ≤ x.n ∧ x.n ≤ 9223372036854775807) :
    Calls Try.prog 3 #[.slice p ls.length cp, .slice q s.length cq] w fun e w' => e = .returned (.bool true) ∧ Below w.heap.size w w' := by
  obtain ⟨a1, a2⟩ := kv_ap
  have a3 := kv_cr
  have okA : OkL (⟨3000, [kv1], [], 0, -1, false⟩ : Lg) := by rw [← a2]; exact (OkL.new (by decide) (by decide)).ap _
  go_enter Try.func3, Try.ntmps3
  go_wp2_with fail
  refine (V.newOk w (by decide) (by decide)).mono ?_
  rintro e w1 ⟨B, rfl, hT, hb1⟩
  have ok0 : OkL (lg0 3000) := OkL.new (by decide) (by decide)
  have hbA := below_al (below_self w1) (.cells #[.string ⟨#[107]⟩, .string ⟨#[118]⟩, .bool false] 31)
  have hF1 : ∀ j, (w.heap.size ≤ j ∧ j < w1.heap.size) → j < (w1.alloc (.cells #[.string ⟨#[107]⟩, .string ⟨#[118]⟩, .bool false] 31)).heap.size := fun j hj => by simp; omega
  have P1 := V.append kv1 (some ⟨w1.heap.size, 0, none⟩) 1 (V.step hT hbA) ok0 hF1 (by decide) (by decide) (fun _ => ⟨w1.heap.size, 0, rfl, by simp, by omega, fun i z hz => by
    match i, hz with
    | 0, hz => cases (Option.some.inj hz); exact ⟨by simp, by simp, by simp⟩⟩)
  rw [a1, a2, ev_0] at P1
  change Calls Try.prog 5 #[.pointer (some ⟨B, 0, none⟩), .slice (some ⟨w1.heap.size, 0, none⟩) 1 1] _ _ at P1
  go_wp2_with fail
  refine P1.mono ?_
  rintro e w2 ⟨rfl, hT2, hb2⟩
  have hs1 := hb1.size
  have hs2 := hb2.size
  simp at hs2
  have hF2 : ∀ j, Nw (fun j => w.heap.size ≤ j ∧ j < w1.heap.size) (w1.alloc (.cells #[.string ⟨#[107]⟩, .string ⟨#[118]⟩, .bool false] 31)) w2 j → w.heap.size ≤ j ∧ j < w2.heap.size := by
    rintro j (hj | hj)
    · omega
    · simp at hj; omega
  have bw2 : Below w.heap.size w w2 := But.under2 (below_via hb1 hbA) hb2 (by simp; omega) (fun i hi e => by omega)
  generalize Nw (fun j => w.heap.size ≤ j ∧ j < w1.heap.size) (w1.alloc (.cells #[.string ⟨#[107]⟩, .string ⟨#[118]⟩, .bool false] 31)) w2 = F2 at hT2 hF2
  clear P1 hT hF1 hbA hb1 hb2
  have P2 := V.crash 6 (by decide) (by decide) hT2 okA (fun j hj => (hF2 j hj).2)
  rw [a3] at P2
  go_wp2_with fail
  refine P2.mono ?_
  rintro e w3 ⟨rfl, hT3, hb3⟩
  have hs3 := hb3.size
  have hF3 : ∀ j, Nw F2 w2 w3 j → w.heap.size ≤ j ∧ j < w3.heap.size := by
    rintro j (hj | hj)
    · have := hF2 j hj; omega
    · omega
  have bw3 : Below w.heap.size w w3 := But.under2 bw2 hb3 bw2.size (fun i hi e => by have := (hF2 i e).1; omega)
  generalize Nw F2 w2 w3 = F3 at hT3 hF3
  clear P2 hT2 hF2 hb3 bw2
  have P3 := V.read hT3 ok0
  change Calls Try.prog 7 _ _ (fun e w' => ∃ (q : Option Addr) (c : Nat), e = .returned (.slice q 0 c) ∧ _) at P3
  go_wp2_with fail
  refine P3.mono ?_
  rintro e w4 ⟨q4, c4, rfl, _, hb4⟩
  have hT4 := V.step hT3 hb4
  have P4 := V.bytes hT4 ok0
  change Calls Try.prog 8 _ _ (fun e w' => ∃ (q : Option Addr) (c : Nat), e = .returned (.slice q 0 c) ∧ _) at P4
  go_wp2_with fail
  refine P4.mono ?_
  rintro e w5 ⟨q5, c5, rfl, _, hb5⟩
  have kp0 : Kp T w w5 B (.slice none 0 0) (lg0 3000) := ⟨⟨F3, V.step hT4 hb5, fun j hj => ⟨(hF3 j hj).1, by have := (hF3 j hj).2; have := hb4.size; have := hb5.size; omega⟩, fun j hj => by cases hj⟩, OwnL.nil _ _, ok0, below_via (below_via bw3 hb4) hb5⟩
  clear P3 P4 hT3 hT4 hF3 hb4 hb5 bw3 a1 a2 a3 okA ok0
  go_wp2_with fail
  go_loopw [8, 9, 10] (fun v8 v9 i wr => ∃ (k : Nat) (g : Lg) (ns : Nat) (p8 : Option Addr) (c8 : Nat), k ≤ s.length ∧ k ≤ 40 ∧ i = .int .i64 k ∧ v8 = .slice p8 ns c8 ∧ ns ≤ g.ls.length ∧ Hid ((frs (g.ls.take ns)).length ≤ g.safe) ∧ Kp T w wr B v9 g) (fun _ _ i _ => s.length - (intOf i).toNat)
  case atStart => exact ⟨0, lg0 3000, 0, none, 0, by omega, by omega, rfl, rfl, Nat.zero_le _, Nat.zero_le _, kp0⟩
  case round =>
    obtain ⟨k, g, ns, p8, c8, hk, hk40, rfl, rfl, hns, hsn, kp⟩ := hrel
    clear kp0
    by_cases hlt : k < s.length ∧ k < 40
    · obtain ⟨hlt, hlt40⟩ := hlt
      have hlt' : (k : Int) < (s.length : Int) := by omega
      have hlt40' : (k : Int) < 40 := by omega
      obtain ⟨b, off, rfl, hbl, hc⟩ := (hq.step kp.bw) (by omega)
      obtain ⟨x, hx⟩ := Vs.chsome hlt
      obtain ⟨d0, d1, d2, d3, d4, d5, z1, z2, z3⟩ := hc k x hx
      have hxn := hsN x (List.mem_of_getElem? hx)
      have kb := kp.box V 38 x
      have ok := kp.ok
      obtain ⟨p9, c9, rfl, h9a, h9b⟩ := kp.all.form
      clear kp hc hx hq
      go_upto_block 2 with fail
      obtain ⟨Bs, hBs⟩ : ∃ Bs, Bs = wr.heap.size := ⟨_, rfl⟩
      obtain ⟨W, hW⟩ : ∃ W, W = wr.alloc (.cells #[.int .i64 x.what, .int .i64 x.who, .string x.key, .string x.hi, .string x.val, .int .i64 x.n] 38) := ⟨_, rfl⟩
      rw [← hW, ← hBs] at kb
      rw [← hW, ← hBs]
      clear hW hBs d0 d1 d2 d3 d4 d5
      go_cut [8, 9, 12, 13] from 56 to 129 (fun v8 v9 _ _ wy => ∃ (g' : Lg) (ns' : Nat) (p8' : Option Addr) (c8' : Nat), v8 = .slice p8' ns' c8' ∧ ns' ≤ g'.ls.length ∧ Hid ((frs (g'.ls.take ns')).length ≤ g'.safe) ∧ Kb T w wy B Bs x v9 g' g'.ls)
      case first =>
        obtain ⟨F, hT, hF, h9, hBs⟩ := kb.ex
        have c0 := kb.sb.c0
        have c5 := kb.sb.c5
        have hpW := hp.step kb.bw
        by_cases hw : x.what = 0
        · by_cases hN : 0 ≤ x.n ∧ x.n < (ls.length : Int)
          · have e0 : (x.what == 0) = true := by simp; omega
            obtain ⟨m, hm⟩ : ∃ m : Nat, x.n = m := ⟨x.n.toNat, by omega⟩
            have hml : m < ls.length := by omega
            have hml' : (m : Int) < (ls.length : Int) := by omega
            rw [hm] at c5
            replace hm : Hid (x.n = m) := hm
            obtain ⟨pb, po, rfl, hpl, hpG, hpc⟩ := hpW (by omega)
            obtain ⟨l, hl⟩ := Vs.chsome hml
            obtain ⟨_, d1, q1, k1, rfl, l1, l2, l3⟩ := hpc m l hl
            have P1 := V.append l q1 k1 hT kb.ok (fun j hj => (hF j hj).2) l1 l2 (l3.mono (fun j _ hj hFj => by have := (hF j hFj).1; have hj : j < w.heap.size := hj; omega))
            clear hw hN hml
            by_cases hf : apF g l = 0
            · rw [hf, ev_0] at P1
              go_wp2_with fail
              refine P1.mono ?_
              rintro e w2 ⟨rfl, hT2, hb2⟩
              have kb2 := kb.log hF h9 hBs hT2 hb2 (kb.ok.ap l)
              have hpb : pb < w.heap.size := hpG
              have d2 := (hb2.cell (p := ⟨pb, po + m, none⟩) hpl (fun hFj => by have h : w.heap.size ≤ pb := (hF _ hFj).1; omega)).trans d1
              have l4 : LsE w2 (fun j => j < w.heap.size) (.slice q1 l.length k1) l := ⟨q1, k1, rfl, l1, l2, l3.but hb2 (fun j _ hj hFj => by have := (hF j hFj).1; have hj : j < w.heap.size := hj; omega)⟩
              obtain ⟨hls, hsf⟩ := ap_ok hf
              clear P1 hT hF h9 hBs hT2 hb2 c0 c5 d1 l3 hpc hpW kb
              have c6 := kb2.sb.c5
              rw [hm.out] at c6
              obtain ⟨vs, r1, r2⟩ := kb2.all
              have hbA := below_al (below_self w2) (.cells #[.slice q1 l.length k1] 32)
              go_wp2_with (at_builtin; refine wpList_append_oneAt 22 32 1 24 _ Try.underlying22 infoLs rfl (by decide) (by decide) rfl _ _ rfl w.heap.size _ g.ls.length vs rfl (r1.alloc _) (by have := kb2.bw.size; simp; omega) w2.heap.size [.slice q1 l.length k1] rfl rfl (cell_new1 _ _ _) one_slice (by have := ok.few.1; omega) ?_; intro v4 w4 own4 hg4 hat4)
              have kb3 := kb2.step V hbA
              have b4 := turned_row hg4
              have hall := OwnL.more (v := .slice p9 g.ls.length c9) (w := w2.alloc (.cells #[.slice q1 l.length k1] 32)) (fun i l' hl' => by obtain ⟨u, u1, u2⟩ := r2 i l' hl'; exact ⟨u, u1, u2.but (E := fun _ => False) (.below hbA) (fun _ _ _ => id)⟩) (by have := r1.1; omega) (l4.but (E := fun _ => False) (.below hbA) (fun _ _ _ => id)) own4 b4 (fun j hj => (kb3.all.lt hj).1)
              have kb4 := kb3.row V hall b4 hat4
              rw [← hls] at kb4
              clear kb2 kb3 r1 r2 own4 hg4 hat4 b4 hall hbA d2 l4 c6
              go_meet
              case rel => exact ⟨apG g l, ns, p8, c8, rfl, by rw [hls]; simp; omega, by show _ ≤ _; rw [hls, List.take_append_of_le_length hns, hsf]; exact hsn.out, kb4⟩
            · rw [ev_ne hf] at P1
              go_wp2_with fail
              refine P1.mono ?_
              rintro e w2 ⟨rfl, hT2, hb2⟩
              have kb2 := kb.log hF h9 hBs hT2 hb2 (kb.ok.ap l)
              obtain ⟨hls, hsf⟩ := ap_no hf
              replace kb2 : Kb T w w2 B Bs x (.slice p9 g.ls.length c9) (apG g l) (apG g l).ls := by rw [hls]; exact kb2
              clear P1 hT hF h9 hBs hT2 hb2 c0 c5 d1 l3 hpc hpW kb
              go_wp2_with fail
              go_meet
              case rel => exact ⟨apG g l, ns, p8, c8, rfl, by rw [hls]; exact hns, by show _ ≤ _; rw [hls, hsf]; exact hsn.out, kb2⟩
          · have e0 : (x.what == 0) = true := by simp; omega
            have g1 : (decide (0 ≤ x.n) && decide (x.n < (ls.length : Int))) = false := by simp; omega
            clear hw
            by_cases hN0 : 0 ≤ x.n
            · have g2 : decide (0 ≤ x.n) = true := by simpa using hN0
              have g3 : decide (x.n < (ls.length : Int)) = false := by simp; omega
              clear hN g1
              go_wp2_with fail
              go_meet
              case rel => exact ⟨g, ns, p8, c8, rfl, hns, hsn, kb⟩
            · have g2 : decide (0 ≤ x.n) = false := by simpa using hN0
              clear hN g1
              go_wp2_with fail
              go_meet
              case rel => exact ⟨g, ns, p8, c8, rfl, hns, hsn, kb⟩
        by_cases hw : x.what = 1
        · by_cases hN : 0 ≤ x.n ∧ x.n < (ls.length : Int)
          · have e0 : (x.what == 0) = false := by simp; omega
            have e1 : (x.what == 1) = true := by simp; omega
            obtain ⟨m, hm⟩ : ∃ m : Nat, x.n = m := ⟨x.n.toNat, by omega⟩
            have hml : m < ls.length := by omega
            have hml' : (m : Int) < (ls.length : Int) := by omega
            rw [hm] at c5
            replace hm : Hid (x.n = m) := hm
            obtain ⟨pb, po, rfl, hpl, hpG, hpc⟩ := hpW (by omega)
            obtain ⟨l, hl⟩ := Vs.chsome hml
            obtain ⟨_, d1, q1, k1, rfl, l1, l2, l3⟩ := hpc m l hl
            have P1 := V.append l q1 k1 hT kb.ok (fun j hj => (hF j hj).2) l1 l2 (l3.mono (fun j _ hj hFj => by have := (hF j hFj).1; have hj : j < w.heap.size := hj; omega))
            clear hw hN hml
            by_cases hf : apF g l = 0
            · rw [hf, ev_0] at P1
              go_wp2_with fail
              refine P1.mono ?_
              rintro e w2 ⟨rfl, hT2, hb2⟩
              have kb2 := kb.log hF h9 hBs hT2 hb2 (kb.ok.ap l)
              have hpb : pb < w.heap.size := hpG
              have d2 := (hb2.cell (p := ⟨pb, po + m, none⟩) hpl (fun hFj => by have h : w.heap.size ≤ pb := (hF _ hFj).1; omega)).trans d1
              have l4 : LsE w2 (fun j => j < w.heap.size) (.slice q1 l.length k1) l := ⟨q1, k1, rfl, l1, l2, l3.but hb2 (fun j _ hj hFj => by have := (hF j hFj).1; have hj : j < w.heap.size := hj; omega)⟩
              obtain ⟨hls, hsf⟩ := ap_ok hf
              clear P1 hT hF h9 hBs hT2 hb2 c0 c5 d1 l3 hpc hpW kb
              have c6 := kb2.sb.c5
              rw [hm.out] at c6
              obtain ⟨vs, r1, r2⟩ := kb2.all
              have hbA := below_al (below_self w2) (.cells #[.slice q1 l.length k1] 32)
              go_wp2_with (at_builtin; refine wpList_append_oneAt 22 32 1 24 _ Try.underlying22 infoLs rfl (by decide) (by decide) rfl _ _ rfl w.heap.size _ g.ls.length vs rfl (r1.alloc _) (by have := kb2.bw.size; simp; omega) w2.heap.size [.slice q1 l.length k1] rfl rfl (cell_new1 _ _ _) one_slice (by have := ok.few.1; omega) ?_; intro v4 w4 own4 hg4 hat4)
              have kb3 := kb2.step V hbA
              have b4 := turned_row hg4
              have hall := OwnL.more (v := .slice p9 g.ls.length c9) (w := w2.alloc (.cells #[.slice q1 l.length k1] 32)) (fun i l' hl' => by obtain ⟨u, u1, u2⟩ := r2 i l' hl'; exact ⟨u, u1, u2.but (E := fun _ => False) (.below hbA) (fun _ _ _ => id)⟩) (by have := r1.1; omega) (l4.but (E := fun _ => False) (.below hbA) (fun _ _ _ => id)) own4 b4 (fun j hj => (kb3.all.lt hj).1)
              have kb4 := kb3.row V hall b4 hat4
              rw [← hls] at kb4
              clear kb2 kb3 r1 r2 own4 hg4 hat4 b4 hall hbA d2 l4 c6
              go_meet
              case rel => exact ⟨apG g l, ns, p8, c8, rfl, by rw [hls]; simp; omega, by show _ ≤ _; rw [hls, List.take_append_of_le_length hns, hsf]; exact hsn.out, kb4⟩
            · rw [ev_ne hf] at P1
              go_wp2_with fail
              refine P1.mono ?_
              rintro e w2 ⟨rfl, hT2, hb2⟩
              have kb2 := kb.log hF h9 hBs hT2 hb2 (kb.ok.ap l)
              obtain ⟨hls, hsf⟩ := ap_no hf
              replace kb2 : Kb T w w2 B Bs x (.slice p9 g.ls.length c9) (apG g l) (apG g l).ls := by rw [hls]; exact kb2
              clear P1 hT hF h9 hBs hT2 hb2 c0 c5 d1 l3 hpc hpW kb
              go_wp2_with fail
              go_meet
              case rel => exact ⟨apG g l, ns, p8, c8, rfl, by rw [hls]; exact hns, by show _ ≤ _; rw [hls, hsf]; exact hsn.out, kb2⟩
          · have e0 : (x.what == 0) = false := by simp; omega
            have e1 : (x.what == 1) = true := by simp; omega
            have g1 : (decide (0 ≤ x.n) && decide (x.n < (ls.length : Int))) = false := by simp; omega
            clear hw
            by_cases hN0 : 0 ≤ x.n
            · have g2 : decide (0 ≤ x.n) = true := by simpa using hN0
              have g3 : decide (x.n < (ls.length : Int)) = false := by simp; omega
              clear hN g1
              go_wp2_with fail
              go_meet
              case rel => exact ⟨g, ns, p8, c8, rfl, hns, hsn, kb⟩
            · have g2 : decide (0 ≤ x.n) = false := by simpa using hN0
              clear hN g1
              go_wp2_with fail
              go_meet
              case rel => exact ⟨g, ns, p8, c8, rfl, hns, hsn, kb⟩
        by_cases hw : x.what = 2
        · by_cases hN : 0 ≤ x.n ∧ x.n < (ls.length : Int)
          · have e0 : (x.what == 0) = false := by simp; omega
            have e1 : (x.what == 1) = false := by simp; omega
            have e2 : (x.what == 2) = true := by simp; omega
            obtain ⟨m, hm⟩ : ∃ m : Nat, x.n = m := ⟨x.n.toNat, by omega⟩
            have hml : m < ls.length := by omega
            have hml' : (m : Int) < (ls.length : Int) := by omega
            rw [hm] at c5
            replace hm : Hid (x.n = m) := hm
            obtain ⟨pb, po, rfl, hpl, hpG, hpc⟩ := hpW (by omega)
            obtain ⟨l, hl⟩ := Vs.chsome hml
            obtain ⟨_, d1, q1, k1, rfl, l1, l2, l3⟩ := hpc m l hl
            have P1 := V.append l q1 k1 hT kb.ok (fun j hj => (hF j hj).2) l1 l2 (l3.mono (fun j _ hj hFj => by have := (hF j hFj).1; have hj : j < w.heap.size := hj; omega))
            clear hw hN hml
            by_cases hf : apF g l = 0
            · rw [hf, ev_0] at P1
              go_wp2_with fail
              refine P1.mono ?_
              rintro e w2 ⟨rfl, hT2, hb2⟩
              have kb2 := kb.log hF h9 hBs hT2 hb2 (kb.ok.ap l)
              have hpb : pb < w.heap.size := hpG
              have d2 := (hb2.cell (p := ⟨pb, po + m, none⟩) hpl (fun hFj => by have h : w.heap.size ≤ pb := (hF _ hFj).1; omega)).trans d1
              have l4 : LsE w2 (fun j => j < w.heap.size) (.slice q1 l.length k1) l := ⟨q1, k1, rfl, l1, l2, l3.but hb2 (fun j _ hj hFj => by have := (hF j hFj).1; have hj : j < w.heap.size := hj; omega)⟩
              obtain ⟨hls, hsf⟩ := ap_ok hf
              clear P1 hT hF h9 hBs hT2 hb2 c0 c5 d1 l3 hpc hpW kb
              have c6 := kb2.sb.c5
              rw [hm.out] at c6
              obtain ⟨vs, r1, r2⟩ := kb2.all
              have hbA := below_al (below_self w2) (.cells #[.slice q1 l.length k1] 32)
              go_wp2_with (at_builtin; refine wpList_append_oneAt 22 32 1 24 _ Try.underlying22 infoLs rfl (by decide) (by decide) rfl _ _ rfl w.heap.size _ g.ls.length vs rfl (r1.alloc _) (by have := kb2.bw.size; simp; omega) w2.heap.size [.slice q1 l.length k1] rfl rfl (cell_new1 _ _ _) one_slice (by have := ok.few.1; omega) ?_; intro v4 w4 own4 hg4 hat4)
              have kb3 := kb2.step V hbA
              have b4 := turned_row hg4
              have hall := OwnL.more (v := .slice p9 g.ls.length c9) (w := w2.alloc (.cells #[.slice q1 l.length k1] 32)) (fun i l' hl' => by obtain ⟨u, u1, u2⟩ := r2 i l' hl'; exact ⟨u, u1, u2.but (E := fun _ => False) (.below hbA) (fun _ _ _ => id)⟩) (by have := r1.1; omega) (l4.but (E := fun _ => False) (.below hbA) (fun _ _ _ => id)) own4 b4 (fun j hj => (kb3.all.lt hj).1)
              have kb4 := kb3.row V hall b4 hat4
              rw [← hls] at kb4
              clear kb2 kb3 r1 r2 own4 hg4 hat4 b4 hall hbA d2 l4 c6
              go_meet
              case rel => exact ⟨apG g l, ns, p8, c8, rfl, by rw [hls]; simp; omega, by show _ ≤ _; rw [hls, List.take_append_of_le_length hns, hsf]; exact hsn.out, kb4⟩
            · rw [ev_ne hf] at P1
              go_wp2_with fail
              refine P1.mono ?_
              rintro e w2 ⟨rfl, hT2, hb2⟩
              have kb2 := kb.log hF h9 hBs hT2 hb2 (kb.ok.ap l)
              obtain ⟨hls, hsf⟩ := ap_no hf
              replace kb2 : Kb T w w2 B Bs x (.slice p9 g.ls.length c9) (apG g l) (apG g l).ls := by rw [hls]; exact kb2
              clear P1 hT hF h9 hBs hT2 hb2 c0 c5 d1 l3 hpc hpW kb
              go_wp2_with fail
              go_meet
              case rel => exact ⟨apG g l, ns, p8, c8, rfl, by rw [hls]; exact hns, by show _ ≤ _; rw [hls, hsf]; exact hsn.out, kb2⟩
          · have e0 : (x.what == 0) = false := by simp; omega
            have e1 : (x.what == 1) = false := by simp; omega
            have e2 : (x.what == 2) = true := by simp; omega
            have g1 : (decide (0 ≤ x.n) && decide (x.n < (ls.length : Int))) = false := by simp; omega
            clear hw
            by_cases hN0 : 0 ≤ x.n
            · have g2 : decide (0 ≤ x.n) = true := by simpa using hN0
              have g3 : decide (x.n < (ls.length : Int)) = false := by simp; omega
              clear hN g1
              go_wp2_with fail
              go_meet
              case rel => exact ⟨g, ns, p8, c8, rfl, hns, hsn, kb⟩
            · have g2 : decide (0 ≤ x.n) = false := by simpa using hN0
              clear hN g1
              go_wp2_with fail
              go_meet
              case rel => exact ⟨g, ns, p8, c8, rfl, hns, hsn, kb⟩
        by_cases hw : x.what = 3
        · have e0 : (x.what == 0) = false := by simp; omega
          have e1 : (x.what == 1) = false := by simp; omega
          have e2 : (x.what == 2) = false := by simp; omega
          have e3 : (x.what == 3) = true := by simp; omega
          clear hw
          have P1 := V.sync hT kb.ok (fun j hj => (hF j hj).2)
          by_cases hf : syF g = 0
          · rw [hf, ev_0] at P1
            go_wp2_with fail
            refine P1.mono ?_
            rintro e w2 ⟨rfl, hT2, hb2⟩
            have kb2 := kb.log hF h9 hBs hT2 hb2 kb.ok.sy
            obtain ⟨hls, hsf⟩ := sy_ok ok hf
            clear P1 hT hF h9 hBs hT2 hb2 c0 c5 hpW kb
            obtain ⟨vs, r1, r2⟩ := kb2.all
            have hone := one_cells r1.1 r2
            go_wp2_with (at_builtin; refine wpList_append_row 22 32 1 24 _ Try.underlying22 infoLs rfl (by decide) (by decide) rfl _ _ rfl w2.heap.size _ 0 [] rfl (World.ownsRow_nil _ _ _ _) (Nat.le_refl _) w.heap.size _ g.ls.length vs rfl r1 hone (by have := ok.few.1; omega) ?_; intro v4 w4 own4 hg4 hat4)
            have hb4 := nil_grown hg4
            have kb4 := kb2.step V hb4
            replace kb4 : Kb T w w4 B Bs x (.slice p9 g.ls.length c9) (syG g) (syG g).ls := by rw [hls]; exact kb4
            obtain ⟨p4, c4, rfl⟩ := own_form own4
            rw [Nat.zero_add]
            clear kb2 r1 r2 own4 hg4 hat4 hb4
            go_meet
            case rel => exact ⟨syG g, g.ls.length, p4, c4, rfl, by rw [hls]; exact Nat.le_refl _, by show _ ≤ _; rw [hls, List.take_length, hsf]; exact Nat.le_refl _, kb4⟩
          · rw [ev_ne hf] at P1
            go_wp2_with fail
            refine P1.mono ?_
            rintro e w2 ⟨rfl, hT2, hb2⟩
            have kb2 := kb.log hF h9 hBs hT2 hb2 kb.ok.sy
            obtain ⟨hls, hsf⟩ := sy_no hf
            replace kb2 : Kb T w w2 B Bs x (.slice p9 g.ls.length c9) (syG g) (syG g).ls := by rw [hls]; exact kb2
            clear P1 hT hF h9 hBs hT2 hb2 c0 c5 hpW kb
            go_wp2_with fail
            go_meet
            case rel => exact ⟨syG g, ns, p8, c8, rfl, by rw [hls]; exact hns, by show _ ≤ _; rw [hls, hsf]; exact hsn.out, kb2⟩
        by_cases hw : x.what = 4
        · have e0 : (x.what == 0) = false := by simp; omega
          have e1 : (x.what == 1) = false := by simp; omega
          have e2 : (x.what == 2) = false := by simp; omega
          have e3 : (x.what == 3) = false := by simp; omega
          have e4 : (x.what == 4) = true := by simp; omega
          clear hw
          have P1 := V.fail x.n hxn.1 hxn.2 hT kb.ok (fun j hj => (hF j hj).2)
          go_wp2_with fail
          refine P1.mono ?_
          rintro e w2 ⟨rfl, hT2, hb2⟩
          have kb2 := kb.log hF h9 hBs hT2 hb2 (kb.ok.fa hxn.2)
          clear P1 hT hF h9 hBs hT2 hb2 c0 c5 hpW kb
          go_wp2_with fail
          go_meet
          case rel => exact ⟨faG g x.n, ns, p8, c8, rfl, hns, hsn, kb2⟩
        by_cases hw : x.what = 5
        · have e0 : (x.what == 0) = false := by simp; omega
          have e1 : (x.what == 1) = false := by simp; omega
          have e2 : (x.what == 2) = false := by simp; omega
          have e3 : (x.what == 3) = false := by simp; omega
          have e4 : (x.what == 4) = false := by simp; omega
          have e5 : (x.what == 5) = true := by simp; omega
          clear hw
          obtain ⟨kk, h1, h2, h3, h4, h5⟩ := cr_keeps ok hns hsn.out x.n
          have P1 := V.crash x.n hxn.1 hxn.2 hT kb.ok (fun j hj => (hF j hj).2)
          go_wp2_with fail
          refine P1.mono ?_
          rintro e w2 ⟨rfl, hT2, hb2⟩
          have kb2 := kb.log hF h9 hBs hT2 hb2 (kb.ok.cr x.n)
          clear P1 hT hF h9 hBs hT2 hb2 c0 c5 hpW kb
          obtain ⟨F2, hT2, hF2, h92, hBs2⟩ := kb2.ex
          have P2 := V.read hT2 kb2.ok
          rw [h2, List.length_take, Nat.min_eq_left h1] at P2
          go_wp2_with fail
          refine P2.mono ?_
          rintro e w3 ⟨q3, c3, rfl, _, hb3⟩
          have kb3 := kb2.step V hb3
          clear P2 hT2 hF2 h92 hBs2 hb3 kb2
          have kb4 : Kb T w w3 B Bs x (.slice p9 kk c9) (crG g x.n) (g.ls.take kk) := kb3.row V (kb3.all.take h1) (But.refl _ _) (.inl (by cases p9 <;> rfl))
          obtain ⟨vs, r1, r2⟩ := kb4.all
          have hone := one_cells r1.1 r2
          have hlk : (g.ls.take kk).length = kk := by rw [List.length_take]; omega
          rw [hlk] at r1
          have g1 : decide ((kk : Int) < (ns : Int)) = false := by simp; omega
          have g2 : decide ((g.ls.length : Int) < (kk : Int)) = false := by simp; omega
          have hkc : kk ≤ c9 := by omega
          have hkc' : (kk : Int) ≤ (c9 : Int) := by omega
          go_wp2_with (at_builtin; refine wpList_append_row 22 32 1 24 _ Try.underlying22 infoLs rfl (by decide) (by decide) rfl _ _ rfl w3.heap.size _ 0 [] rfl (World.ownsRow_nil _ _ _ _) (Nat.le_refl _) w.heap.size _ kk vs rfl r1 hone (by have := ok.few.1; omega) ?_; intro v4 w4 own4 hg4 hat4)
          have hb4 := nil_grown hg4
          have kb5 := kb4.step V hb4
          rw [← h2] at kb5
          obtain ⟨p4, c4, rfl⟩ := own_form own4
          rw [Nat.zero_add]
          clear kb3 kb4 r1 r2 own4 hg4 hat4 hb4
          go_meet
          case rel => exact ⟨crG g x.n, kk, p4, c4, rfl, h3, h4, kb5⟩
        have e0 : (x.what == 0) = false := by simp; omega
        have e1 : (x.what == 1) = false := by simp; omega
        have e2 : (x.what == 2) = false := by simp; omega
        have e3 : (x.what == 3) = false := by simp; omega
        have e4 : (x.what == 4) = false := by simp; omega
        have e5 : (x.what == 5) = false := by simp; omega
        go_wp2_with fail
        go_meet
        case rel => exact ⟨g, ns, p8, c8, rfl, hns, hsn, kb⟩
      case rest =>
        obtain ⟨g', ns', p8', c8', hv8, hns', hsn', kb'⟩ := hcut
        subst hv8
        obtain ⟨p9', c9', hv9, _, _⟩ := kb'.all.form
        subst hv9
        obtain ⟨F, hT, _, _, _⟩ := kb'.ex
        have P1 := V.read hT kb'.ok
        have hf := kb'.ok.few.1
        clear kb hns hsn ok
        go_wp2_with fail
        refine P1.mono ?_
        rintro e w5 ⟨q5, c5', rfl, hr5, hb5⟩
        have kb5 := kb'.step V hb5
        clear P1 hT kb' hb5
        go_wp2_with fail
        refine (sameLists g'.ls q5 p9' c5' c9' _ (by omega) hr5 kb5.all.at).mono ?_
        rintro e w6 ⟨rfl, hb6⟩
        have kb6 := kb5.step V hb6
        clear kb5 hb6 hr5
        go_wp2_with fail
        exact ⟨⟨k + 1, g', ns', p8', c8', by omega, by omega, by go_num, rfl, hns', hsn', kb6.kp⟩, by simp [intOf]; omega⟩
    · by_cases h1 : k < s.length
      · have g1 : decide ((k : Int) < (s.length : Int)) = true := by simp; omega
        have g2 : decide ((k : Int) < 40) = false := by simp; omega
        have bw := kp.bw
        clear kp hq hp
        go_wp2_with fail
        go_ret
        exact ⟨rfl, bw⟩
      · have g1 : decide ((k : Int) < (s.length : Int)) = false := by simp; omega
        have bw := kp.bw
        clear kp hq hp
        go_wp2_with fail
        go_ret
        exact ⟨rfl, bw⟩
end Go.Proofs.Ytcmmjidheglmdaa
