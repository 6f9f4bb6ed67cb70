/- The contract of the reference's BytesOf. -/
import Derived.Test.YtcmmjidheglmdaaDoorCdRefA
import Derived.Test.YtcmmjidheglmdaaDoorCdBy
namespace Vs
theorem encL_take (l : List Chg) : encL l = [UInt8.ofNat l.length] ++ (l.drop 0).flatMap encC := rfl
theorem enc_step {l : List Chg} {k : Nat} {x : Chg} (hx : l[k]? = some x) : (l.drop k).flatMap encC = encC x ++ (l.drop (k + 1)).flatMap encC := by
  rw [drop_ch hx]; rfl
end Vs
namespace Go.Proofs.YtcmmjidheglmdaaDoor
open Go.RowKit Go.Lib

set_option maxHeartbeats 4000000 in
theorem bytesOf (l : List Vs.Chg) (p : Option Addr) (cp : Nat) (w : World) (hf : Vs.chF l = 0) (hp : ChAt w p l) :
    Calls Tryd.prog 22 #[.slice p l.length cp] w fun e w' => ∃ v, e = .returned v ∧ w'.ownsRow w.heap.size 5 1 v (Vs.encL l).length (byV (Vs.encL l)) ∧ Below w.heap.size w w' := by
  obtain ⟨hl, hok⟩ := Vs.chF_ok hf
  obtain ⟨N, hN⟩ : ∃ N, N = Vs.encL l := ⟨_, rfl⟩
  rw [← hN]
  replace hN : Hid (N = [UInt8.ofNat l.length] ++ (l.drop 0).flatMap Vs.encC) := hN
  clear hf
  go_enter Tryd.func22, Tryd.ntmps22
  go_wp2_with (first
    | (at_builtin; refine wpList_append_one 42 5 1 1 _ Tryd.underlying42 infoByte rfl (by decide) (by decide) rfl _ _ rfl w.heap.size _ 0 (byV []) rfl (World.ownsRow_nil _ _ _ _) (by simp) w.heap.size [.int .u8 l.length] rfl rfl (byte_new _ _ _) byte_one (by omega) ?_; intro v1 w1 hown1 hgrow1)
    | go_in)
  have hownA := own_byte (o := []) (c := UInt8.ofNat l.length) (by simp; omega) hown1
  have hbA : Below w.heap.size w w1 := (below_al (below_self w) _).grown hgrow1 (by simp) (fun j hj => by cases hj)
  clear hown1 hgrow1
  go_loopw [3, 4] (fun v i wr => ∃ (k : Nat) (o : List UInt8), k ≤ l.length ∧ i = .int .i64 k ∧ Hid (N = o ++ (l.drop k).flatMap Vs.encC) ∧ Hid (o.length ≤ 1 + k * 40) ∧ wr.ownsRow w.heap.size 5 1 v o.length (byV o) ∧ Below w.heap.size w wr) (fun _ i _ => l.length - (intOf i).toNat)
  case atStart => exact ⟨0, _, by omega, rfl, hN, by show _ ≤ _; simp, hownA, hbA⟩
  case round =>
    clear hownA hbA hN
    obtain ⟨k, o, hk, rfl, hM, hO, hown, hb⟩ := hrel
    have hws := hb.size
    by_cases hlt : k < l.length
    · have hlt' : (k : Int) < (l.length : Int) := by omega
      obtain ⟨b1, o1, rfl, hb1, hc1⟩ := hp (by omega)
      obtain ⟨x, hx⟩ := Vs.chsome hlt
      obtain ⟨d0, d1, d2⟩ := hc1 k x hx
      have e0 := (hb.cell (p := ⟨b1, o1 + k * 3, none⟩) hb1).trans d0
      have e1 := (hb.cell (p := ⟨b1, o1 + k * 3 + 1, none⟩) hb1).trans d1
      have e2 := (hb.cell (p := ⟨b1, o1 + k * 3 + 2, none⟩) hb1).trans d2
      have hD : Hid (N = (o ++ Vs.encC x) ++ (l.drop (k + 1)).flatMap Vs.encC) := by
        show _ = _
        rw [hM.out, Vs.enc_step hx, List.append_assoc]
      obtain ⟨q1, q2, q3, q4⟩ := Vs.chW_ok (hok x (List.mem_of_getElem? hx))
      have hO' : o.length ≤ 1 + 20 * 40 := by have := hO.out; omega
      clear hM hc1 hx hp hok
      cases hg : x.g
      · rw [hg] at e2 d2
        go_wp2_with (first
          | (at_builtin; refine wpList_append_text rfl _ _ rfl w.heap.size _ (o ++ [UInt8.ofNat x.k.size] ++ x.k.data.toList ++ [UInt8.ofNat x.v.size]) rfl hx4 x.v rfl (by simp; omega) (by omega) ?_; intro v5 w5 hx5 hgrow5; have hb5 : Below w.heap.size w w5 := hb4.grown hgrow5 (by omega) (fun j hj => (hx4.lt j hj).1); clear hgrow5; have hw5s := hb5.size; have c50 := (hb5.cell (p := ⟨b1, o1 + k * 3, none⟩) hb1).trans d0; have c51 := (hb5.cell (p := ⟨b1, o1 + k * 3 + 1, none⟩) hb1).trans d1; have c52 := (hb5.cell (p := ⟨b1, o1 + k * 3 + 2, none⟩) hb1).trans d2)
          | (at_builtin; refine wpList_append_one 42 5 1 1 _ Tryd.underlying42 infoByte rfl (by decide) (by decide) rfl _ _ rfl w.heap.size _ (o ++ [UInt8.ofNat x.k.size] ++ x.k.data.toList).length (byV (o ++ [UInt8.ofNat x.k.size] ++ x.k.data.toList)) rfl (hx3.alloc _) (by simp; omega) w3.heap.size [.int .u8 x.v.size] rfl rfl (byte_new _ _ _) byte_one (by first | omega | (simp; omega)) ?_; intro v4 w4 hown4 hgrow4; have hx4 := own_byte (o := o ++ [UInt8.ofNat x.k.size] ++ x.k.data.toList) (c := UInt8.ofNat x.v.size) (by simp; omega) hown4; have hb4 : Below w.heap.size w w4 := (below_al hb3 _).grown hgrow4 (by simp; omega) (fun j hj => (hx3.lt j hj).1); clear hown4 hgrow4; have hw4s := hb4.size; have c40 := (hb4.cell (p := ⟨b1, o1 + k * 3, none⟩) hb1).trans d0; have c41 := (hb4.cell (p := ⟨b1, o1 + k * 3 + 1, none⟩) hb1).trans d1; have c42 := (hb4.cell (p := ⟨b1, o1 + k * 3 + 2, none⟩) hb1).trans d2)
          | (at_builtin; refine wpList_append_text rfl _ _ rfl w.heap.size _ (o ++ [UInt8.ofNat x.k.size]) rfl hx2 x.k rfl (by simp; omega) (by omega) ?_; intro v3 w3 hx3 hgrow3; have hb3 : Below w.heap.size w w3 := hb2.grown hgrow3 (by omega) (fun j hj => (hx2.lt j hj).1); clear hgrow3; have hw3s := hb3.size; have c30 := (hb3.cell (p := ⟨b1, o1 + k * 3, none⟩) hb1).trans d0; have c31 := (hb3.cell (p := ⟨b1, o1 + k * 3 + 1, none⟩) hb1).trans d1; have c32 := (hb3.cell (p := ⟨b1, o1 + k * 3 + 2, none⟩) hb1).trans d2)
          | (at_builtin; refine wpList_append_one 42 5 1 1 _ Tryd.underlying42 infoByte rfl (by decide) (by decide) rfl _ _ rfl w.heap.size _ (o).length (byV (o)) rfl (hown.alloc _) (by simp; omega) wr.heap.size [.int .u8 x.k.size] rfl rfl (byte_new _ _ _) byte_one (by first | omega | (simp; omega)) ?_; intro v2 w2 hown2 hgrow2; have hx2 := own_byte (o := o) (c := UInt8.ofNat x.k.size) (by simp; omega) hown2; have hb2 : Below w.heap.size w w2 := (below_al hb _).grown hgrow2 (by simp; omega) (fun j hj => (hown.lt j hj).1); clear hown2 hgrow2; have hw2s := hb2.size; have c20 := (hb2.cell (p := ⟨b1, o1 + k * 3, none⟩) hb1).trans d0; have c21 := (hb2.cell (p := ⟨b1, o1 + k * 3 + 1, none⟩) hb1).trans d1; have c22 := (hb2.cell (p := ⟨b1, o1 + k * 3 + 2, none⟩) hb1).trans d2)
          | go_in)
        have E : Hid (N = o ++ [UInt8.ofNat x.k.size] ++ x.k.data.toList ++ [UInt8.ofNat x.v.size] ++ x.v.data.toList ++ (l.drop (k + 1)).flatMap Vs.encC) := by
          show _ = _
          rw [hD.out, Vs.encC, hg]; simp
        exact ⟨⟨k + 1, _, by omega, by go_num, E, by show _ ≤ _; have := hO.out; simp; omega, hx5, hb5⟩, by simp [intOf]; omega⟩
      · rw [hg] at e2 d2
        go_wp2_with (first
          | (at_builtin; refine wpList_append_text rfl _ _ rfl w.heap.size _ (o ++ [UInt8.ofNat (x.k.size + 128)]) rfl hx2 x.k rfl (by simp; omega) (by omega) ?_; intro v3 w3 hx3 hgrow3; have hb3 : Below w.heap.size w w3 := hb2.grown hgrow3 (by omega) (fun j hj => (hx2.lt j hj).1); clear hgrow3; have hw3s := hb3.size; have c30 := (hb3.cell (p := ⟨b1, o1 + k * 3, none⟩) hb1).trans d0; have c31 := (hb3.cell (p := ⟨b1, o1 + k * 3 + 1, none⟩) hb1).trans d1; have c32 := (hb3.cell (p := ⟨b1, o1 + k * 3 + 2, none⟩) hb1).trans d2)
          | (at_builtin; refine wpList_append_one 42 5 1 1 _ Tryd.underlying42 infoByte rfl (by decide) (by decide) rfl _ _ rfl w.heap.size _ (o).length (byV (o)) rfl (hown.alloc _) (by simp; omega) wr.heap.size [.int .u8 (x.k.size + 128)] rfl rfl (byte_new _ _ _) byte_one (by first | omega | (simp; omega)) ?_; intro v2 w2 hown2 hgrow2; have hx2 := own_byte (o := o) (c := UInt8.ofNat (x.k.size + 128)) (by simp; omega) hown2; have hb2 : Below w.heap.size w w2 := (below_al hb _).grown hgrow2 (by simp; omega) (fun j hj => (hown.lt j hj).1); clear hown2 hgrow2; have hw2s := hb2.size; have c20 := (hb2.cell (p := ⟨b1, o1 + k * 3, none⟩) hb1).trans d0; have c21 := (hb2.cell (p := ⟨b1, o1 + k * 3 + 1, none⟩) hb1).trans d1; have c22 := (hb2.cell (p := ⟨b1, o1 + k * 3 + 2, none⟩) hb1).trans d2)
          | go_in)
        have E : Hid (N = o ++ [UInt8.ofNat (x.k.size + 128)] ++ x.k.data.toList ++ (l.drop (k + 1)).flatMap Vs.encC) := by
          show _ = _
          rw [hD.out, Vs.encC, hg]; simp
        exact ⟨⟨k + 1, _, by omega, by go_num, E, by show _ ≤ _; have := hO.out; simp; omega, hx3, hb3⟩, by simp [intOf]; omega⟩
    · have E : Hid (N = o) := by
        show _ = _
        rw [hM.out, List.drop_eq_nil_of_le (by omega)]; simp
      clear hM hp
      go_wp2
      go_ret
      exact ⟨_, rfl, by rw [E.out]; exact hown, hb⟩
end Go.Proofs.YtcmmjidheglmdaaDoor
