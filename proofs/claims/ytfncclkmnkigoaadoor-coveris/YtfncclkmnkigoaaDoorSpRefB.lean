/- The contract of the reference's edges: its third loop. -/
import Derived.Test.YtfncclkmnkigoaaDoorSpRefA
import Derived.Deep.CutBlock
import Derived.Laws.CopyOwn
namespace Go.Proofs.YtfncclkmnkigoaaDoor
open Go.RowKit

/-- How a slice looks that owns a row. -/
theorem own_form {w : World} {B e size n : Nat} {v : Value} {xs : List Value} (h : w.ownsRow B e size v n xs) : ∃ p cp, v = .slice p n cp := by
  rcases h.2 with ⟨rfl, rfl⟩ | ⟨g, cp, _, rfl, _⟩
  · exact ⟨_, _, rfl⟩
  · exact ⟨_, _, rfl⟩
theorem own_drewN {w : World} {B e size n : Nat} {v : Value} {xs : List Value} (h : w.ownsRow B e size v n xs) (k : Nat) : (w.drewN k).ownsRow B e size v n xs := own_below h (below_drewN (below_self _) k)
theorem two_new {W : World} {x y : Int} {t : Nat} {N : Nat} (hN : N = W.heap.size) : ∀ (j : Nat) (u : Value), ([.int .i64 x, .int .i64 y] : List Value)[j]? = some u → (W.alloc (.cells #[.int .i64 x, .int .i64 y] t)).cell? ((⟨N, 0, none⟩ : Addr).add j) = some u := by
  subst hN
  intro j u hj
  match j, hj with
  | 0, hj => simp at hj; subst hj; simp [Addr.add]
  | 1, hj => simp at hj; subst hj; simp [Addr.add]
theorem two_one {x y : Int} : ∀ u ∈ ([.int .i64 x, .int .i64 y] : List Value), u.oneCell' = true := by
  intro u hu; simp at hu; rcases hu with rfl | rfl <;> rfl

/-- What edges answers with: the numbers of a list, rising, each once. -/
def EdP (all : List Int) (w : World) (e : Ending) (w' : World) : Prop :=
  ∃ (r : Option Addr) (cr : Nat) (zs : List Int), e = .returned (.slice r zs.length cr) ∧ zs.Pairwise (· < ·) ∧ (∀ e, e ∈ zs ↔ e ∈ all) ∧ zs.length ≤ 1024 ∧ InAt w' r zs ∧ Below w.heap.size w w'

theorem int_size : (Tryd.prog.info? 3).map (·.size) = some 1 := by kernel_rfl
/-- A row behind the copy and the store: one number more, at its place. -/
theorem own_insert {w2 : World} {B g cap n j : Nat} {out : List Int} {x : Int} {cur : Array Value} (hn : n = out.length) (hj : j ≤ n) (hBg : B ≤ g) (hc : cap ≤ maxLen) (hnc : n + 1 ≤ cap) (hsz : cur.size = cap * 1) (ht : cur.toList.take ((n + 1) * 1) = inV (out ++ [0]))
    (h2 : w2.heap[g]? = some (.cells (splice cur.toList (j + 1) (inV (out.drop j))).toArray 3 (0, 0))) :
    (w2.setCell ⟨g, j, none⟩ (.int .i64 x)).ownsRow B 3 1 (.slice (some ⟨g, 0, none⟩) (n + 1) cap) (n + 1) (inV (out.take j ++ x :: out.drop j)) := by
  subst hn
  have hl : cur.toList.length = cap := by simpa using hsz
  have hs : (splice cur.toList (j + 1) (inV (out.drop j))).length = cap := by
    rw [length_splice _ _ _ (by simp [inV]; omega), hl]
  have h0 : w2.ownsRow B 3 1 (.slice (some ⟨g, 0, none⟩) (out.length + 1) cap) (out.length + 1) ((splice cur.toList (j + 1) (inV (out.drop j))).take (out.length + 1)) :=
    ⟨by rw [List.length_take, hs]; omega, .inr ⟨g, cap, _, rfl, hBg, h2, hnc, hc, by simpa using hs, by simp⟩⟩
  have h1 := (h0.stored j (.int .i64 x)).1
  have e : ((splice cur.toList (j + 1) (inV (out.drop j))).take (out.length + 1)).set j (.int .i64 x) = inV (out.take j ++ x :: out.drop j) := by
    rw [Nat.mul_one] at ht
    have e1 : cur.toList.take (j + 1) = inV ((out ++ [0]).take (j + 1)) := by
      have := congrArg (List.take (j + 1)) ht
      rw [List.take_take, Nat.min_eq_left (by omega)] at this
      rw [this]; simp [inV]
    apply List.ext_getElem?
    intro t
    unfold splice
    rw [e1]
    by_cases h1 : t < j
    · rw [List.getElem?_set_ne (by omega), List.getElem?_take_of_lt (by omega), List.getElem?_append_left (by simp [inV]; omega)]
      simp [inV, List.getElem?_append, h1, show t < j + 1 from by omega, show t < out.length from by omega]
      intro h; omega
    · by_cases h2 : t = j
      · subst h2
        rw [List.getElem?_set_self (by simp [inV]; omega)]
        simp [inV, show min t out.length = t from by omega]
      · rw [List.getElem?_set_ne (by omega)]
        by_cases h3 : t < out.length + 1
        · rw [List.getElem?_take_of_lt h3, List.getElem?_append_right (by simp [inV]; omega), List.getElem?_append_left (by simp [inV]; omega)]
          simp only [inV, List.getElem?_map, List.length_map, List.length_take, List.length_append, List.length_cons, List.length_nil, List.getElem?_drop]
          rw [List.getElem?_append_right (by simp; omega), List.length_take, show t - min j out.length = (t - j - 1) + 1 from by omega, List.getElem?_cons_succ, List.getElem?_drop]
          congr 2
          omega
        · rw [List.getElem?_eq_none (by simp [inV]; omega), List.getElem?_eq_none (by simp [inV]; omega)]
  rw [e] at h1
  exact h1

/-- Where a number is put, all stays rising. -/
theorem ins_pair {out : List Int} {x : Int} {j : Nat} (hp : out.Pairwise (· < ·)) (hj : j ≤ out.length) (hhi : ∀ t, j ≤ t → t < out.length → x < out.getD t 0) (hlo : j = 0 ∨ out.getD (j - 1) 0 < x) : (out.take j ++ x :: out.drop j).Pairwise (· < ·) := by
  have hg : ∀ t, t < out.length → out[t]? = some (out.getD t 0) := fun t ht => by simp [List.getElem?_eq_getElem ht]
  rw [List.pairwise_append, List.pairwise_cons]
  refine ⟨hp.sublist (List.take_sublist _ _), ⟨fun y hy => ?_, hp.sublist (List.drop_sublist _ _)⟩, fun y hy z hz => ?_⟩
  · obtain ⟨t, ht⟩ := List.getElem?_of_mem hy
    rw [List.getElem?_drop] at ht
    have hlt : j + t < out.length := (List.getElem?_eq_some_iff.1 ht).1
    rw [hg _ hlt] at ht
    cases ht
    exact hhi _ (by omega) hlt
  · have hy' : y < x := by
      obtain ⟨t, ht⟩ := List.getElem?_of_mem hy
      have htj : t < j := by
        have := (List.getElem?_eq_some_iff.1 ht).1
        simp at this; omega
      rw [List.getElem?_take_of_lt htj] at ht
      rcases hlo with h | h
      · omega
      · have h2 := List.pairwise_iff_getElem.1 hp
        have e1 : out[t]'(by omega) = y := by
          rw [List.getElem?_eq_getElem (by omega)] at ht; cases ht; rfl
        have e2 : out[j - 1]'(by omega) = out.getD (j - 1) 0 := by simp [List.getD, List.getElem?_eq_getElem (show j - 1 < out.length from by omega)]
        by_cases h3 : t = j - 1
        · subst h3; rw [← e1, e2]; exact h
        · have := h2 t (j - 1) (by omega) (by omega) (by omega)
          rw [e1, e2] at this; omega
    rcases List.mem_cons.1 hz with rfl | hz
    · exact hy'
    · have := (List.pairwise_append.1 (by rw [List.take_append_drop]; exact hp : (out.take j ++ out.drop j).Pairwise (· < ·))).2.2 y hy z hz
      exact this
theorem ins_mem {out : List Int} {x : Int} {j : Nat} (e : Int) : e ∈ out.take j ++ x :: out.drop j ↔ e = x ∨ e ∈ out := by
  conv => rhs; rw [← List.take_append_drop j out]
  simp only [List.mem_append, List.mem_cons]
  constructor
  · rintro (h | h | h) <;> simp [h]
  · rintro (h | h | h) <;> simp [h]
theorem take_mem {all : List Int} {i : Nat} (h : i < all.length) (e : Int) : e ∈ all.take (i + 1) ↔ e ∈ all.take i ∨ e = all.getD i 0 := by
  rw [List.take_add_one, List.getElem?_eq_getElem h, List.mem_append]
  simp only [Option.toList_some, List.mem_singleton, List.getD, List.getElem?_eq_getElem h, Option.getD_some]

set_option maxRecDepth 100000 in
set_option maxHeartbeats 8000000 in
theorem refEdges3 {all : List Int} {pq : Option Addr} {cq : Nat} {w wx : World} {c0 c1 c2 c3 c4 c7 c8 c9 c10 c11 c12 c13 c14 c15 c16 c17 c18 c19 c20 c21 c22 c23 c24 c25 c26 c27 c28 c29 c30 c31 c32 c33 c34 c35 c36 c37 c38 c39 c40 c41 c42 c43 c44 c45 c46 c47 c48 c49 c50 c51 c52 c53 c54 c55 c56 c57 c58 c59 c60 c61 c62 c63 c64 c65 c66 c67 c68 c69 c70 c71 c72 c73 c74 c75 c76 c77 c78 c79 c80 c81 c82 c83 c84 c85 c86 c87 c88 c89 c90 c91 c92 c93 c94 c95 c96 c97 c98 c99 c100 c101 c102 c103 c104 c105 c106 c107 : Value} (hlen : all.length ≤ 1024) (hq : InAt wx pq all) (hb : Below w.heap.size w wx) :
    Code.wp Tryd.prog (dropSeq 5 (Tryd.f29.body.getD .skip)) (bodyPost Tryd.prog Tryd.f29 (EdP all w)) ⟨#[c0, c1, c2, c3, c4, .slice none 0 0, .slice pq all.length cq, c7, c8, c9, c10, c11, c12, c13, c14, c15, c16, c17, c18, c19, c20, c21, c22, c23, c24, c25, c26, c27, c28, c29, c30, c31, c32, c33, c34, c35, c36, c37, c38, c39, c40, c41, c42, c43, c44, c45, c46, c47, c48, c49, c50, c51, c52, c53, c54, c55, c56, c57, c58, c59, c60, c61, c62, c63, c64, c65, c66, c67, c68, c69, c70, c71, c72, c73, c74, c75, c76, c77, c78, c79, c80, c81, c82, c83, c84, c85, c86, c87, c88, c89, c90, c91, c92, c93, c94, c95, c96, c97, c98, c99, c100, c101, c102, c103, c104, c105, c106, c107], []⟩ wx := by
  obtain ⟨i0, hin, hz0, hz1, hz2⟩ := info_parts info_int
  conv => arg 2; whnf
  go_wp2_with fail
  go_loopw [5, 9] (fun v i wr => ∃ (k : Nat) (out : List Int), k ≤ all.length ∧ i = .int .i64 k ∧ out.length ≤ k ∧ Hid (out.Pairwise (· < ·)) ∧ Hid (∀ e, e ∈ out ↔ e ∈ all.take k) ∧ wr.ownsRow wx.heap.size 3 1 v out.length (inV out) ∧ Below wx.heap.size wx wr) (fun _ i _ => all.length - (intOf i).toNat)
  case atStart => exact ⟨0, [], by omega, rfl, by simp, by show List.Pairwise _ _; simp, by show ∀ _, _; simp, World.ownsRow_nil _ _ _ _, below_self _⟩
  case round =>
    obtain ⟨i, out, hi, rfl, hol, hpw, hme, hown, hbw⟩ := hrel
    have hsz := hbw.size
    obtain ⟨p, cp, rfl⟩ := own_form hown
    obtain ⟨W, hW⟩ : ∃ W, W = wr := ⟨_, rfl⟩
    subst hW
    by_cases hlt : i < all.length
    · have hlt' : (i : Int) < (all.length : Int) := by omega
      obtain ⟨ab, ao, rfl, habl, hac⟩ := hq (by omega)
      obtain ⟨x, hx⟩ : ∃ x, Hid (all.getD i 0 = x) := ⟨_, rfl⟩
      have cx : W.cell? ⟨ab, ao + i, none⟩ = some (.int .i64 x) := by rw [← hx.out]; exact (hbw.cell (p := ⟨ab, ao + i, none⟩) habl).trans (hac i hlt)
      have hia := (inAt_own hown).2
      have cax : Hid (wx.cell? ⟨ab, ao + i, none⟩ = some (.int .i64 x)) := by show _ = _; rw [← hx.out]; exact hac i hlt
      have hMX : Hid (∀ e, e ∈ all.take (i + 1) ↔ e ∈ out ∨ e = x) := by show ∀ _, _; intro e; rw [take_mem hlt, hx.out, hme.out]
      clear hac hq
      go_upto_block 6 with fail
      go_cut [10] from 59 to 74 (fun kk wy => ∃ (j n : Nat), kk = .int .i64 j ∧ j ≤ out.length ∧ Hid (∀ t, j ≤ t → t < out.length → x < out.getD t 0) ∧ Hid (j = 0 ∨ out.getD (j - 1) 0 ≤ x) ∧ wy = W.drewN n)
      case first =>
        go_wp2_with fail
        go_loopw [10] (fun kk wy => ∃ (j n : Nat), kk = .int .i64 j ∧ j ≤ out.length ∧ Hid (∀ t, j ≤ t → t < out.length → x < out.getD t 0) ∧ wy = W.drewN n) (fun kk _ => (intOf kk).toNat)
        case atStart => exact ⟨out.length, 0, rfl, by omega, fun t h1 h2 => by omega, rfl⟩
        case round =>
          obtain ⟨j, n, rfl, hj, hT, hw⟩ := hrel
          by_cases hj0 : 0 < j
          · obtain ⟨ob, oo, rfl, hobl, hoc⟩ := hia (by omega)
            have hg : decide ((0 : Int) < (j : Int)) = true := by simp; omega
            have cj : W.cell? ⟨ob, oo + (j - 1), none⟩ = some (.int .i64 (out.getD (j - 1) 0)) := hoc (j - 1) (by omega)
            obtain ⟨y, hy⟩ : ∃ y, Hid (out.getD (j - 1) 0 = y) := ⟨_, rfl⟩
            rw [hy.out] at cj
            have HW : Hid _ := hw
            have cj2 : wr.cell? ⟨ob, oo + (j - 1), none⟩ = some (.int .i64 y) := by rw [hw]; exact cj
            have cx2 : wr.cell? ⟨ab, ao + i, none⟩ = some (.int .i64 x) := by rw [hw]; exact cx
            clear hoc hw cj cx hown hia
            cases hd : decide (x < y)
            · have HE : Hid (j = 0 ∨ out.getD (j - 1) 0 ≤ x) := by right; rw [hy.out]; simpa using hd
              go_wp2_with fail
              go_quiet (fail)
              go_wp2_with fail
              go_meet
              case rel => exact ⟨j, n + nq, rfl, hj, hT, HE, by rw [HW.out]; simp⟩
            · have HT : Hid (∀ t, j - 1 ≤ t → t < out.length → x < out.getD t 0) := fun t h1 h2 => by
                by_cases h3 : t = j - 1
                · rw [h3, hy.out]; simpa using hd
                · exact hT.out t (by omega) h2
              clear hT
              go_wp2_with fail
              go_quiet (fail)
              go_wp2_with fail
              exact ⟨⟨j - 1, n + nq, by go_num, by omega, HT, by rw [HW.out]; simp⟩, by simp [intOf]; omega⟩
          · have hg : decide ((0 : Int) < (j : Int)) = false := by simp; omega
            have HE : Hid (j = 0 ∨ out.getD (j - 1) 0 ≤ x) := by left; omega
            have HW : Hid _ := hw
            clear hw cx hown hia
            go_wp2_with fail
            go_quiet (fail)
            go_wp2_with fail
            go_meet
            case rel => exact ⟨j, n + nq, rfl, hj, hT, HE, by rw [HW.out]; simp⟩
      case rest =>
      obtain ⟨j, n, rfl, hj, hT, hE, hw⟩ := hcut
      have hown1 := own_drewN hown n
      have hia1 := hia.step (below_drewN (below_self W) n)
      have hb1 := below_drewN hbw n
      rw [← hw] at hown1 hia1 hb1
      have cx1 : wc.cell? ⟨ab, ao + i, none⟩ = some (.int .i64 x) := by rw [hw]; exact cx
      clear hw hown hia hbw cx
      obtain ⟨V, hV⟩ : ∃ V, V = wc := ⟨_, rfl⟩
      subst hV
      go_upto_region 17 with fail
      go_cut [88] from 75 to 87 (fun c wy => c = .bool (decide (0 < j ∧ out.getD (j - 1) 0 = x)) ∧ ∃ n, wy = V.drewN n)
      case first =>
        by_cases hj0 : 0 < j
        · obtain ⟨ob, oo, rfl, hobl, hoc⟩ := hia1 (by omega)
          have hg : decide ((0 : Int) < (j : Int)) = true := by simp; omega
          have cj : V.cell? ⟨ob, oo + (j - 1), none⟩ = some (.int .i64 (out.getD (j - 1) 0)) := hoc (j - 1) (by omega)
          obtain ⟨y, hy⟩ : ∃ y, Hid (out.getD (j - 1) 0 = y) := ⟨_, rfl⟩
          rw [hy.out] at cj
          clear hoc hown1 hia1
          cases hd : (y == x)
          · have HD : Hid (decide (0 < j ∧ out.getD (j - 1) 0 = x) = false) := by show _ = _; rw [hy.out]; simp at hd; simp [hd]
            go_quiet (fail)
            go_wp2_with fail
            go_meet
            case rel => exact ⟨by rw [HD.out], _, rfl⟩
          · have HD : Hid (decide (0 < j ∧ out.getD (j - 1) 0 = x) = true) := by show _ = _; rw [hy.out]; simp at hd; simp [hd, hj0]
            go_quiet (fail)
            go_wp2_with fail
            go_meet
            case rel => exact ⟨by rw [HD.out], _, rfl⟩
        · have hg : decide ((0 : Int) < (j : Int)) = false := by simp; omega
          have HD : Hid (decide (0 < j ∧ out.getD (j - 1) 0 = x) = false) := by show _ = _; simp [hj0]
          clear hown1 hia1
          go_quiet (fail)
          go_wp2_with fail
          go_meet
          case rel => exact ⟨by rw [HD.out], _, rfl⟩
      case rest =>
      obtain ⟨rfl, n2, hw⟩ := hcut
      have hown2 := own_drewN hown1 n2
      have hb2 := below_drewN hb1 n2
      rw [← hw] at hown2 hb2
      clear hw hown1 hia1 hb1 cx1
      obtain ⟨U, hU⟩ : ∃ U, U = wc := ⟨_, rfl⟩
      subst hU
      have hszU := hb2.size
      by_cases hf : 0 < j ∧ out.getD (j - 1) 0 = x
      · have HM : Hid (∀ e, e ∈ out ↔ e ∈ all.take (i + 1)) := by
          show ∀ _, _
          intro e
          rw [hMX.out]
          constructor
          · exact Or.inl
          · rintro (h | h)
            · exact h
            · rw [h, ← hf.2]
              simp [List.getD, List.getElem?_eq_getElem (show j - 1 < out.length from by omega)]
        have hft : decide (0 < j ∧ out.getD (j - 1) 0 = x) = true := decide_eq_true hf
        rw [hft]
        clear hf hft hT hE hMX cax hme
        go_wp2_with fail
        exact ⟨⟨i + 1, out, by omega, by go_num, by omega, hpw, HM, hown2, hb2⟩, by simp [intOf]; omega⟩
      · have hft : decide (0 < j ∧ out.getD (j - 1) 0 = x) = false := decide_eq_false hf
        have HP : Hid ((out.take j ++ x :: out.drop j).Pairwise (· < ·)) := ins_pair hpw.out hj hT.out (by
          rcases hE.out with h | h
          · exact .inl h
          · by_cases hj0 : 0 < j
            · right
              have : out.getD (j - 1) 0 ≠ x := fun h' => hf ⟨hj0, h'⟩
              omega
            · left; omega)
        have HM : Hid (∀ e, e ∈ out.take j ++ x :: out.drop j ↔ e ∈ all.take (i + 1)) := by
          show ∀ _, _
          intro e
          rw [hMX.out, ins_mem, or_comm]
        rw [hft]
        clear hf hft hT hE hMX hme hpw
        go_wp2_with (at_builtin; refine wpList_append_lies _ rfl _ _ 62 rfl wx.heap.size 3 i0 (.int .i64 0) 1 8 Tryd.underlying62 hin hz0 hz1 hz2 rfl (by decide) _ _ _ rfl (hown2.alloc _) ⟨U.heap.size, 0, none⟩ 1 1 [.int .i64 0] rfl rfl ?c1 ?c2 (by decide) ?c3 ?c4 ?c5 U.heap.size.succ (by simp) ?_)
        case c1 =>
          intro j u hj
          match j, hj with
          | 0, hj => simp at hj; subst hj; simp [Addr.add]
        case c2 => intro u hu; simp at hu; subst hu; rfl
        case c3 => unfold maxLen; omega
        case c4 => omega
        case c5 => simp; omega
        intro g cap' w3 hown3 hgrow _ _
        have hb3 : Below wx.heap.size wx w3 := (below_al hb2 _).grown hgrow (by simp; omega) (fun j hj => (hown2.lt j hj).1)
        clear hgrow hown2 hb2
        rw [show inV out ++ [.int .i64 0] = inV (out ++ [0]) from by simp [inV]] at hown3
        rcases hown3.2 with ⟨hv, _⟩ | ⟨g', cap'', cur, hv, hBg, hgg, hnc, hcm, hcs, htk⟩
        · cases hv
        cases hv
        have hg3 : w3.heap[g]? = some (.cells cur.toList.toArray 3 (0, 0)) := by simpa using hgg
        have hcsl : (inV (out.drop j)).length = out.length - j := by simp [inV]
        have hsrc : ∀ (t : Nat) (u : Value), (inV (out.drop j))[t]? = some u → w3.cell? ((⟨g, j, none⟩ : Addr).add t) = some u := by
          intro t u hu
          have htl : t < out.length - j := by rw [← hcsl]; exact (List.getElem?_eq_some_iff.1 hu).1
          rw [show (⟨g, j, none⟩ : Addr).add t = ⟨g, j + t, none⟩ from by simp [Addr.add], hown3.cellAt (j + t) (by omega), ← hu]
          simp [inV, List.getElem?_append, show j + t < out.length from by omega]
        have hone : ∀ u ∈ inV (out.drop j), u.oneCell' = true := by
          intro u hu; simp only [inV, List.mem_map] at hu; obtain ⟨y, _, rfl⟩ := hu; rfl
        have hjn : (j : Int) ≤ (out.length : Int) := by omega
        have hcl : cur.toList.length = cap' := by simpa using hcs
        go_upto_region 19 with fail
        go_cut [5, 91] from 92 to 99 (fun v5 _ wy => v5 = .slice (some ⟨g, 0, none⟩) (out.length + 1) cap' ∧ Hid (wy.heap[g]? = some (.cells (splice cur.toList (j + 1) (inV (out.drop j))).toArray 3 (0, 0))) ∧ Below wx.heap.size wx wy)
        case first =>
          have x1 : IntKind.i64.wrap ((j : Int) + 1) = (j : Int) + 1 := Bur.wrap_i64_id _ (by omega) (by omega)
          have x2 : ((j : Int) + 1).toNat = j + 1 := by omega
          have x3 : (0 : Int) ≤ (j : Int) + 1 := by omega
          have x4 : (j : Int) + 1 ≤ (out.length : Int) + 1 := by omega
          have x5 : (j : Int) ≤ (out.length : Int) + 1 := by omega
          go_region_held3 (fun _ => True) (trivial) (first | (refine step_copy_splice rfl (.tmp 95) (.tmp 98) 62 62 rfl 3 Tryd.underlying62 int_size _ _ _ _ _ _ rfl rfl g (j + 1) cur.toList 3 hg3 (inV (out.drop j)) (by rw [hcsl]; simp [Nat.min_def]; omega) (fun hp => ⟨by first | rfl | (rw [if_neg (by omega)]) | (simp; omega), ⟨g, j, none⟩, by first | rfl | (rw [if_neg (by omega)]) | (simp; omega), hsrc⟩) (by rw [hcsl, hcl]; omega) hone wx.heap.size wx hb3.drew hBg ?_; intro w4 hg4 hb4))
          all_goals go_wp2_with fail
          all_goals (go_meet; first | exact ⟨rfl, hg4, hb4⟩ | exact ⟨by simp [*], hg4, hb4⟩)
        case rest =>
        obtain ⟨rfl, hg4, hb4⟩ := hcut
        have cx4 : wc.cell? ⟨ab, ao + i, none⟩ = some (.int .i64 x) := (hb4.cell (p := ⟨ab, ao + i, none⟩) habl).trans cax.out
        have hspl : (splice cur.toList (j + 1) (inV (out.drop j))).length = cap' := by rw [length_splice _ _ _ (by rw [hcsl, hcl]; omega), hcl]
        obtain ⟨u, hu⟩ : ∃ u, wc.cell? ⟨g, j, none⟩ = some u := by
          rw [cell_of_row wc g j _ _ _ hg4.out]
          exact ⟨_, Array.getElem?_eq_getElem (by simp [hspl]; omega)⟩
        have hfz : wc.frozen? ⟨g, j, none⟩ = false := frozen_of_row wc g j _ _ hg4.out
        have hins := own_insert (x := x) rfl hj hBg hcm hnc hcs htk hg4.out
        have hol2 : (out.take j ++ x :: out.drop j).length = out.length + 1 := by simp; omega
        have hins2 : (wc.setCell ⟨g, j, none⟩ (.int .i64 x)).ownsRow wx.heap.size 3 1 (.slice (some ⟨g, 0, none⟩) (out.length + 1) cap') (out.take j ++ x :: out.drop j).length (inV (out.take j ++ x :: out.drop j)) := by rw [hol2]; exact hins
        clear hins
        have hb5 := hb4.setCell (p := ⟨g, j, none⟩) hBg (.int .i64 x)
        have hjn2 : (j : Int) < (out.length : Int) + 1 := by omega
        clear hg4 hb4 hown3 hg3 hgg hsrc hone htk hspl hcsl hcl hb3
        go_wp2_with fail
        exact ⟨⟨i + 1, out.take j ++ x :: out.drop j, by omega, by go_num, by rw [hol2]; omega, HP, HM, hins2, hb5⟩, by simp [intOf]; omega⟩
    · have e1 : all.take i = all := List.take_of_length_le (by omega)
      have hme2 : Hid (∀ e, e ∈ out ↔ e ∈ all) := by show ∀ _, _; intro e; rw [hme.out, e1]
      have hia := (inAt_own hown).2
      have hb2 := below_via hb hbw
      clear hme e1 hown hq hb hbw
      go_wp2_with fail
      go_ret
      exact ⟨p, cp, out, rfl, hpw.out, hme2.out, by omega, hia, hb2⟩
end Go.Proofs.YtfncclkmnkigoaaDoor
