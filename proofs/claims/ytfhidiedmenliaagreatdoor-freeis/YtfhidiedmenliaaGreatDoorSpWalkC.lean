/- The contracts of what combine asks of an address. -/
import Derived.Test.YtfhidiedmenliaaGreatDoorSpWalkB
namespace Go.Proofs.YtfhidiedmenliaaGreatDoor
open Go.RowKit

theorem keep1 (x y : Bool) (w : World) : Calls Tryz.prog 39 #[.bool x, .bool y] w fun e w' => e = .returned (.bool (Bur.kp 1 x y)) ∧ w' = w := by
  cases x <;> cases y
  all_goals
    go_enter Tryz.func39, Tryz.ntmps39
    go_wp2
    go_ret
    exact ⟨rfl, rfl⟩

theorem keep2 (x y : Bool) (w : World) : Calls Tryz.prog 38 #[.bool x, .bool y] w fun e w' => e = .returned (.bool (Bur.kp 2 x y)) ∧ w' = w := by
  cases x <;> cases y
  all_goals
    go_enter Tryz.func38, Tryz.ntmps38
    go_wp2
    go_ret
    exact ⟨rfl, rfl⟩

theorem keep3 (x y : Bool) (w : World) : Calls Tryz.prog 44 #[.bool x, .bool y] w fun e w' => e = .returned (.bool (Bur.kp 3 x y)) ∧ w' = w := by
  cases x <;> cases y
  all_goals
    go_enter Tryz.func44, Tryz.ntmps44
    go_wp2
    go_ret
    exact ⟨rfl, rfl⟩

/-- What combine$1 is closed over. -/
structure Cl (w : World) (K : Nat) (kk ia ib ca cb : Addr) (a b : List Bur.Sp) : Prop where
  k : w.cell? kk = some (.func (.func K) #[] #[])
  ia : w.cell? ia = some (.func (.func 66) #[] #[.pointer (some ca)])
  ib : w.cell? ib = some (.func (.func 66) #[] #[.pointer (some cb)])
  a : Ask w ca a
  b : Ask w cb b
theorem Cl.step {w w' : World} {K : Nat} {kk ia ib ca cb : Addr} {a b : List Bur.Sp} (h : Cl w K kk ia ib ca cb a b) (hb : Below w.heap.size w w') : Cl w' K kk ia ib ca cb a b :=
  ⟨(hb.cell (World.block_lt_of_cell? _ _ h.k)).trans h.k, (hb.cell (World.block_lt_of_cell? _ _ h.ia)).trans h.ia, (hb.cell (World.block_lt_of_cell? _ _ h.ib)).trans h.ib, h.a.step hb, h.b.step hb⟩

set_option maxRecDepth 100000 in
set_option maxHeartbeats 4000000 in
theorem ask1 (x : Int) (kk ia ib ca cb : Addr) (a b : List Bur.Sp) (w : World) (h : Cl w 39 kk ia ib ca cb a b) :
    Calls Tryz.prog 55 #[.int .i64 x, .pointer (some kk), .pointer (some ia), .pointer (some ib)] w fun e w' => e = .returned (.bool (Bur.kp 1 (Bur.mem a x) (Bur.mem b x))) ∧ Below w.heap.size w w' := by
  have c1 := h.k
  have c2 := h.ia
  have c3 := h.ib
  go_enter Tryz.func55, Tryz.ntmps55
  go_wp2
  go_region_held3 (fun wy => wy.cell? kk = some (.func (.func 39) #[] #[]) ∧ wy.cell? ia = some (.func (.func 66) #[] #[.pointer (some ca)]) ∧ wy.cell? ib = some (.func (.func 66) #[] #[.pointer (some cb)])) (first | exact ⟨h2.k, h2.ia, h2.ib⟩ | exact ⟨h1.k, h1.ia, h1.ib⟩ | exact ⟨h.k, h.ia, h.ib⟩)
    (first
      | (go_at_call 66; refine (askOne a x ca _ (h.step (below_self _).drew).a).mono ?_; rintro e w1 ⟨rfl, hb1⟩; have h1 : Cl w1 39 kk ia ib ca cb a b := (h.step (below_self _).drew).step hb1)
      | (go_at_call 66; refine (askOne b x cb _ h1.b).mono ?_; rintro e w2 ⟨rfl, hb2⟩; have h2 : Cl w2 39 kk ia ib ca cb a b := h1.step hb2)
      | (go_at_call 39; refine (keep1 _ _ _).mono ?_; rintro e w3 ⟨rfl, rfl⟩))
  go_wp2
  go_ret
  exact ⟨rfl, below_via (below_via (below_self _).drew hb1) hb2⟩
set_option maxRecDepth 100000 in
set_option maxHeartbeats 4000000 in
theorem ask2 (x : Int) (kk ia ib ca cb : Addr) (a b : List Bur.Sp) (w : World) (h : Cl w 38 kk ia ib ca cb a b) :
    Calls Tryz.prog 55 #[.int .i64 x, .pointer (some kk), .pointer (some ia), .pointer (some ib)] w fun e w' => e = .returned (.bool (Bur.kp 2 (Bur.mem a x) (Bur.mem b x))) ∧ Below w.heap.size w w' := by
  have c1 := h.k
  have c2 := h.ia
  have c3 := h.ib
  go_enter Tryz.func55, Tryz.ntmps55
  go_wp2
  go_region_held3 (fun wy => wy.cell? kk = some (.func (.func 38) #[] #[]) ∧ wy.cell? ia = some (.func (.func 66) #[] #[.pointer (some ca)]) ∧ wy.cell? ib = some (.func (.func 66) #[] #[.pointer (some cb)])) (first | exact ⟨h2.k, h2.ia, h2.ib⟩ | exact ⟨h1.k, h1.ia, h1.ib⟩ | exact ⟨h.k, h.ia, h.ib⟩)
    (first
      | (go_at_call 66; refine (askOne a x ca _ (h.step (below_self _).drew).a).mono ?_; rintro e w1 ⟨rfl, hb1⟩; have h1 : Cl w1 38 kk ia ib ca cb a b := (h.step (below_self _).drew).step hb1)
      | (go_at_call 66; refine (askOne b x cb _ h1.b).mono ?_; rintro e w2 ⟨rfl, hb2⟩; have h2 : Cl w2 38 kk ia ib ca cb a b := h1.step hb2)
      | (go_at_call 38; refine (keep2 _ _ _).mono ?_; rintro e w3 ⟨rfl, rfl⟩))
  go_wp2
  go_ret
  exact ⟨rfl, below_via (below_via (below_self _).drew hb1) hb2⟩
set_option maxRecDepth 100000 in
set_option maxHeartbeats 4000000 in
theorem ask3 (x : Int) (kk ia ib ca cb : Addr) (a b : List Bur.Sp) (w : World) (h : Cl w 44 kk ia ib ca cb a b) :
    Calls Tryz.prog 55 #[.int .i64 x, .pointer (some kk), .pointer (some ia), .pointer (some ib)] w fun e w' => e = .returned (.bool (Bur.kp 3 (Bur.mem a x) (Bur.mem b x))) ∧ Below w.heap.size w w' := by
  have c1 := h.k
  have c2 := h.ia
  have c3 := h.ib
  go_enter Tryz.func55, Tryz.ntmps55
  go_wp2
  go_region_held3 (fun wy => wy.cell? kk = some (.func (.func 44) #[] #[]) ∧ wy.cell? ia = some (.func (.func 66) #[] #[.pointer (some ca)]) ∧ wy.cell? ib = some (.func (.func 66) #[] #[.pointer (some cb)])) (first | exact ⟨h2.k, h2.ia, h2.ib⟩ | exact ⟨h1.k, h1.ia, h1.ib⟩ | exact ⟨h.k, h.ia, h.ib⟩)
    (first
      | (go_at_call 66; refine (askOne a x ca _ (h.step (below_self _).drew).a).mono ?_; rintro e w1 ⟨rfl, hb1⟩; have h1 : Cl w1 44 kk ia ib ca cb a b := (h.step (below_self _).drew).step hb1)
      | (go_at_call 66; refine (askOne b x cb _ h1.b).mono ?_; rintro e w2 ⟨rfl, hb2⟩; have h2 : Cl w2 44 kk ia ib ca cb a b := h1.step hb2)
      | (go_at_call 44; refine (keep3 _ _ _).mono ?_; rintro e w3 ⟨rfl, rfl⟩))
  go_wp2
  go_ret
  exact ⟨rfl, below_via (below_via (below_self _).drew hb1) hb2⟩
end Go.Proofs.YtfhidiedmenliaaGreatDoor
