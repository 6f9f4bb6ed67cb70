/- Package plot: a net's key, an address' key, read. -/
import Derived.Test.YtdjiodikefoliaaDoorCQB
import Derived.Test.YtdjiodikefoliaaDoorCAuMath
namespace Go.Proofs.YtdjiodikefoliaaDoor.Pa
open Go.RowKit

def rnV (l : List UInt8) : Bool → Value
  | true => .tuple #[.string ⟨(l.drop 2).toArray⟩, .nilIface]
  | false => .tuple #[.string ⟨#[]⟩, errN 5]
set_option maxRecDepth 100000 in
theorem plReadNet (l : List UInt8) (w : World) : Calls Tryd.prog 42 #[.string ⟨l.toArray⟩] w fun e w' => e = .returned (rnV l (Bur.nkB l)) ∧ Below w.heap.size w w' := by
  have hK : ∀ W, Calls Tryd.prog 60 #[.string ⟨#[]⟩] W fun e w' => e = .returned (.string ⟨#[110, 47]⟩) ∧ w' = W := fun W => plNetKey ⟨#[]⟩ W (by decide)
  have hP := fun W => cutPre l 110 W
  unfold Bur.nkB
  by_cases h2 : l.take 2 = [110, 47]
  · rw [decide_eq_true h2, if_pos h2] at hP
    rw [decide_eq_true h2, Bool.true_and]
    have hN : ∀ W : World, Calls Tryd.prog 34 #[.string ⟨(l.drop 2).toArray⟩] W fun e w' => e = .returned (ev (Bur.nmF (l.drop 2))) ∧ Below W.heap.size W w' := fun W => plName ⟨(l.drop 2).toArray⟩ W
    generalize hr : l.drop 2 = r at *
    cases hn : Bur.isN r with
    | true =>
      rw [show Bur.nmF r = 0 from if_pos hn, ev_0] at hN
      go_enter Tryd.func42, Tryd.ntmps42
      go_wp2_with (first
        | (go_at_call 60; refine (hK _).mono ?_; rintro e w1 ⟨rfl, rfl⟩)
        | (go_at_call 59; refine (hP _).mono ?_; rintro e w1 ⟨rfl, rfl⟩)
        | (go_at_call 34; refine (hN _).mono ?_; rintro e w3 ⟨rfl, hb3⟩))
      go_ret2
      exact ⟨by rw [← hr]; rfl, hb3⟩
    | false =>
      rw [show Bur.nmF r = 5 from if_neg (by rw [hn]; decide), ev_ne (by decide)] at hN
      go_enter Tryd.func42, Tryd.ntmps42
      go_wp2_with (first
        | (go_at_call 60; refine (hK _).mono ?_; rintro e w1 ⟨rfl, rfl⟩)
        | (go_at_call 59; refine (hP _).mono ?_; rintro e w1 ⟨rfl, rfl⟩)
        | (go_at_call 34; refine (hN _).mono ?_; rintro e w3 ⟨rfl, hb3⟩))
      go_ret2
      exact ⟨rfl, hb3⟩
  · rw [decide_eq_false h2, if_neg h2] at hP
    rw [decide_eq_false h2, Bool.false_and]
    go_enter Tryd.func42, Tryd.ntmps42
    go_wp2_with (first
      | (go_at_call 60; refine (hK _).mono ?_; rintro e w1 ⟨rfl, rfl⟩)
      | (go_at_call 59; refine (hP _).mono ?_; rintro e w1 ⟨rfl, rfl⟩))
    go_ret2
    exact ⟨rfl, below_self _⟩
/-- An address' key, read. -/
def raV (n : List UInt8) : Option Int → Value
  | some a => .tuple #[.string ⟨n.toArray⟩, .int .i64 a, .nilIface]
  | none => .tuple #[.string ⟨#[]⟩, .int .i64 0, errN 5]
set_option maxRecDepth 100000 in
theorem plReadAddr (l : List UInt8) (w : World) (hl : l.length < 4294967281) (hm : MaxL w) : Calls Tryd.prog 44 #[.string ⟨l.toArray⟩] w fun e w' => e = .returned (raV (Bur.pkN l) (Bur.raK l)) ∧ Below w.heap.size w w' := by
  have K := plCut 97 l w hl hm
  cases hk : Bur.kcB 97 l
  · have e0 : Bur.raK l = none := if_neg (fun q => by rw [hk] at q; exact absurd q.1 (by decide))
    rw [hk] at K
    rw [e0]
    clear e0 hk
    go_enter Tryd.func44, Tryd.ntmps44
    go_wp2_with (go_at_call 61; refine K.mono ?_; clear K; rintro e w1 ⟨⟨x, y, rfl, _⟩, hb1⟩)
    go_ret3
    exact ⟨rfl, hb1⟩
  · by_cases h8 : (Bur.pkD l).length = 8
    · have e0 : Bur.raK l = Bur.rx Bur.hxv 16 0 (Bur.pkD l) := if_pos ⟨hk, h8⟩
      have K2 : ∀ w1 : World, Calls Tryd.prog 62 #[.string ⟨(Bur.pkD l).toArray⟩, .int .i64 16] w1 _ := fun w1 => plRead16 ⟨(Bur.pkD l).toArray⟩ w1 (by show (Bur.pkD l).toArray.size ≤ 8; simp; omega)
      rw [hk] at K
      have h8' : (⟨(Bur.pkD l).toArray⟩ : ByteArray).size = 8 := by show (Bur.pkD l).toArray.size = 8; simpa using h8
      simp only at K2
      rw [← e0] at K2
      clear e0 hk h8
      generalize Bur.raK l = R at K2 ⊢
      generalize Bur.pkD l = D at K K2 h8'
      generalize Bur.pkN l = n at K ⊢
      cases R with
      | none =>
        have K3 : ∀ w1 : World, Calls Tryd.prog 62 #[.string ⟨D.toArray⟩, .int .i64 16] w1 fun e w' => e = .returned (.tuple #[.int .i64 0, .bool false]) ∧ Below w1.heap.size w1 w' := K2
        clear K2
        go_enter Tryd.func44, Tryd.ntmps44
        go_wp2_with (first
          | (go_at_call 61; refine K.mono ?_; clear K; rintro e w1 ⟨⟨x, y, rfl, hxy⟩, hb1⟩; obtain ⟨rfl, rfl⟩ := hxy rfl; clear hxy)
          | (go_at_call 62; refine (K3 _).mono ?_; rintro e w2 ⟨rfl, hb2⟩))
        go_ret3
        exact ⟨rfl, below_via hb1 hb2⟩
      | some a =>
        have K3 : ∀ w1 : World, Calls Tryd.prog 62 #[.string ⟨D.toArray⟩, .int .i64 16] w1 fun e w' => e = .returned (.tuple #[.int .i64 a, .bool true]) ∧ Below w1.heap.size w1 w' := K2
        clear K2
        go_enter Tryd.func44, Tryd.ntmps44
        go_wp2_with (first
          | (go_at_call 61; refine K.mono ?_; clear K; rintro e w1 ⟨⟨x, y, rfl, hxy⟩, hb1⟩; obtain ⟨rfl, rfl⟩ := hxy rfl; clear hxy)
          | (go_at_call 62; refine (K3 _).mono ?_; rintro e w2 ⟨rfl, hb2⟩))
        go_ret3
        exact ⟨rfl, below_via hb1 hb2⟩
    · have e0 : Bur.raK l = none := if_neg (fun q => h8 q.2)
      rw [hk] at K
      rw [e0]
      have h8n : (((Bur.pkD l).length : Int) != 8) = true := by simp; omega
      clear e0 hk h8
      generalize Bur.pkD l = D at K h8n
      go_enter Tryd.func44, Tryd.ntmps44
      go_wp2_with (go_at_call 61; refine K.mono ?_; clear K; rintro e w1 ⟨⟨x, y, rfl, hxy⟩, hb1⟩; obtain ⟨_, rfl⟩ := hxy rfl; clear hxy)
      go_ret3
      exact ⟨rfl, hb1⟩
end Go.Proofs.YtdjiodikefoliaaDoor.Pa
