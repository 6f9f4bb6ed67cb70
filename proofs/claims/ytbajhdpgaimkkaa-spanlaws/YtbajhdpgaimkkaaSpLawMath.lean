/- What two sets have together, in common, and the one alone. No program stands here. -/
import Derived.Test.YtbajhdpgaimkkaaSpWalkF
namespace Bur
theorem twF_ok {how : Int} {a b : List Sp} (h : twF how a b = 0) : setF a = 0 ∧ setF b = 0 ∧ twS how a b = two how a b ∧ setF (two how a b) = 0 := by
  have e : twS how a b = two how a b := if_pos h
  unfold twF at h
  split at h
  · rename_i ha
    split at h
    · rename_i hb
      split at h
      · omega
      · have oa := setF_ok ha
        have ob := setF_ok hb
        exact ⟨ha, hb, e, setF_mk (by omega) (two_set how oa.2.2 ob.2.2).1 (two_inA how oa.2.2 ob.2.2)⟩
    · contradiction
  · contradiction
theorem twF_mk {how : Int} {a b m : List Sp} (ha : setF a = 0) (hb : setF b = 0) (hm : setF m = 0) (e : ∀ x, mem m x = kp how (mem a x) (mem b x)) : twF how a b = 0 ∧ twS how a b = m := by
  have oa := setF_ok ha
  have ob := setF_ok hb
  have om := setF_ok hm
  have t := two_set how oa.2.2 ob.2.2
  have e2 : two how a b = m := t.1.uniq om.2.1 (fun x => by rw [t.2, e])
  have e3 : twF how a b = 0 := by
    unfold twF
    rw [if_pos ha, if_pos hb, e2, if_neg (by omega)]
  exact ⟨e3, by unfold twS; rw [if_pos e3, e2]⟩
theorem two_mem {how : Int} {a b : List Sp} (ha : setF a = 0) (hb : setF b = 0) (x : Int) : mem (two how a b) x = kp how (mem a x) (mem b x) :=
  (two_set how (setF_ok ha).2.2 (setF_ok hb).2.2).2 x
theorem kp1 (x y : Bool) : kp 1 x y = (x || y) := by cases x <;> cases y <;> rfl
theorem kp2 (x y : Bool) : kp 2 x y = (x && y) := by cases x <;> cases y <;> rfl
theorem kp3 (x y : Bool) : kp 3 x y = (x && !y) := by cases x <;> cases y <;> rfl
theorem cnF_incl {a b : List Sp} (ha : setF a = 0) (hb : setF b = 0) (hu : setF (two 1 a b) = 0) (hm : setF (two 2 a b) = 0) : cnF (two 1 a b) + cnF (two 2 a b) = cnF a + cnF b := by
  have oa := setF_ok ha
  have ob := setF_ok hb
  have ou := setF_ok hu
  have om := setF_ok hm
  unfold cnF
  rw [if_pos ha, if_pos hb, if_pos hu, if_pos hm]
  exact cnt_incl oa.2.1 ob.2.1 ou.2.1 om.2.1 oa.2.2 ob.2.2 ou.2.2 om.2.2 (fun x => by rw [two_mem ha hb, kp1]) (fun x => by rw [two_mem ha hb, kp2])
theorem cnt_bound : ∀ {l : List Sp}, InA l → 0 ≤ cnt l ∧ cnt l ≤ l.length * 4294967296
  | [], _ => by simp [cnt]
  | s :: r, h => by
    have h1 := h s (by simp)
    have h2 := cnt_bound (l := r) (fun t ht => h t (by simp [ht]))
    rw [cnt, List.length_cons]
    omega
theorem cnF_bound {l : List Sp} (h : setF l = 0) : 0 ≤ cnF l ∧ cnF l ≤ 274877906944 := by
  have o := setF_ok h
  have := cnt_bound o.2.2
  unfold cnF
  rw [if_pos h]
  omega
theorem fact_two : twF 1 [(1, 3)] [(4, 9)] = 0 ∧ twS 1 [(1, 3)] [(4, 9)] = [(1, 9)] := by
  refine twF_mk (by decide) (by decide) (by decide) (fun x => ?_)
  rw [kp1, Bool.eq_iff_iff, Bool.or_eq_true, mem_iff, mem_iff, mem_iff]
  simp
  omega
theorem haF_in {l : List Sp} {x : Int} (h : setF l = 0) (hx : isA x = true) : haF l x = 0 ∧ haB l x = mem l x := by
  have e : haF l x = 0 := by simp [haF, h, hx]
  exact ⟨e, by simp [haB, e]⟩
theorem haF_out {l : List Sp} {x : Int} (h : setF l = 0) (hx : isA x = false) : haF l x = 1 := by simp [haF, h, hx]
end Bur
