/- The contract of the reference's Split. -/
import Derived.Test.YtdjiodikefoliaaDoorCPkA
import Derived.Test.YtdjiodikefoliaaDoorCQA
import Derived.Deep.AppendLies
namespace Go.Proofs.YtdjiodikefoliaaDoor
open Go.RowKit

theorem info_string : (Tryd.prog.info? 9).map (fun i => (i.zero, i.size, i.bytes)) = some (some (.string ByteArray.empty), 1, 16) := by kernel_rfl

/-- The pieces so far, as values. -/
def strV (ps : List ByteArray) : List Value := ps.map Value.string
theorem strV_len (ps : List ByteArray) : (strV ps).length = ps.length := by simp [strV]

set_option maxHeartbeats 1000000 in
theorem refSplit (s : ByteArray) (c : UInt8) (w : World) (hs : s.size < 4294967281) :
    Calls Tryd.prog 28 #[.string s, .int .u8 c.toNat] w fun e w' => ∃ (ps : List ByteArray) (g cap : Nat),
      e = .returned (.slice (some ⟨g, 0, none⟩) ps.length cap) ∧ ps.map (fun b => b.data.toList) = Bur.spc c [] s.data.toList ∧
      w'.ownsRow w.heap.size 9 1 (.slice (some ⟨g, 0, none⟩) ps.length cap) ps.length (strV ps) ∧ Below w.heap.size w w' := by
  obtain ⟨i0, hi, hz0, hz1, hz2⟩ := info_parts info_string
  have hc256 : c.toNat < 256 := c.toNat_lt
  go_enter Tryd.func28, Tryd.ntmps28
  go_wp2
  go_loopw [5, 6, 7] (fun v f i wr => ∃ (k from' : Nat) (ps : List ByteArray), k ≤ s.size ∧ from' ≤ k ∧ i = .int .i64 k ∧ f = .int .i64 from' ∧ ps.length ≤ k ∧ Hid (Bur.spc c [] s.data.toList = ps.map (fun b => b.data.toList) ++ Bur.spc c ((s.data.toList.drop from').take (k - from')) (s.data.toList.drop k)) ∧ wr.ownsRow w.heap.size 9 1 v ps.length (strV ps) ∧ Below w.heap.size w wr) (fun _ _ i _ => s.size - (intOf i).toNat)
  case atStart => exact ⟨0, 0, [], by omega, by omega, rfl, rfl, by simp, by show _ = _; simp, World.ownsRow_nil _ _ _ _, below_self _⟩
  case round =>
    obtain ⟨k, fr, ps, hk, hfk, rfl, rfl, hpl, R, hown, hb⟩ := hrel
    have hsz := hb.size
    by_cases hlt : k < s.size
    · have hd : Hid _ := Bur.drop_at s k hlt
      have hck : s[k].toNat < 256 := s[k].toNat_lt
      cases h3 : ((s[k].toNat : Int) == (c.toNat : Int))
      · have hne : s[k] ≠ c := by intro e; rw [e] at h3; simp at h3
        have R2 : Hid (Bur.spc c [] s.data.toList = ps.map (fun b => b.data.toList) ++ Bur.spc c ((s.data.toList.drop fr).take (k + 1 - fr)) (s.data.toList.drop (k + 1))) := by
          show _ = _
          rw [R.out, hd.out, Bur.spc_miss hne, Bur.ext_next _ _ _ hfk _ _ hd.out]
        clear R hd
        go_wp2
        exact ⟨⟨k + 1, fr, ps, by omega, by omega, by go_num, rfl, by omega, R2, hown, hb⟩, by simp [intOf]; omega⟩
      · have heq : s[k] = c := by apply UInt8.toNat_inj.1; simp at h3; omega
        have R2 : Hid (Bur.spc c [] s.data.toList = (ps ++ [s.extract fr k]).map (fun b => b.data.toList) ++ Bur.spc c ((s.data.toList.drop (k + 1)).take (k + 1 - (k + 1))) (s.data.toList.drop (k + 1))) := by
          show _ = _
          rw [R.out, hd.out, Bur.spc_hit heq]
          simp
        clear R hd
        go_wp2_with (at_builtin; refine wpList_append_own _ rfl _ _ 73 rfl w.heap.size 9 i0 (.string ByteArray.empty) 1 16 Tryd.underlying73 hi hz0 hz1 hz2 rfl (by decide) _ _ _ rfl (hown.alloc _) ⟨wr.heap.size, 0, none⟩ 1 1 [.string (s.extract fr k)] rfl rfl ?c1 ?c2 ?c3 ?c4 ?c5 ?_)
        case c1 =>
          intro j u hj
          match j, hj with
          | 0, hj => simp at hj; subst hj; simp [Addr.add]
        case c2 => intro u hu; simp at hu; subst hu; rfl
        case c3 => unfold maxLen; omega
        case c4 => omega
        case c5 => simp; omega
        intro v' w1 hown' hgrow _
        have hb1 : Below w.heap.size w w1 := (below_al hb _).grown hgrow (by simp; omega) (fun j hj => (hown.lt j hj).1)
        clear hown hgrow
        go_wp2
        exact ⟨⟨k + 1, k + 1, ps ++ [s.extract fr k], by omega, by omega, by go_num, by go_num, by simp; omega, R2, by simpa [strV] using hown', hb1⟩, by simp [intOf]; omega⟩
    · have hke : k = s.size := by omega
      subst hke
      have R2 : Hid (Bur.spc c [] s.data.toList = (ps ++ [s.extract fr s.size]).map (fun b => b.data.toList)) := by
        show _ = _
        have e0 : s.data.toList.drop s.size = [] := List.drop_of_length_le (by simp)
        rw [R.out, e0]
        simp [Bur.spc]
      clear R
      go_wp2_with (at_builtin; refine wpList_append_own _ rfl _ _ 73 rfl w.heap.size 9 i0 (.string ByteArray.empty) 1 16 Tryd.underlying73 hi hz0 hz1 hz2 rfl (by decide) _ _ _ rfl (hown.alloc _) ⟨wr.heap.size, 0, none⟩ 1 1 [.string (s.extract fr s.size)] rfl rfl ?d1 ?d2 ?d3 ?d4 ?d5 ?_)
      case d1 =>
        intro j u hj
        match j, hj with
        | 0, hj => simp at hj; subst hj; simp [Addr.add]
      case d2 => intro u hu; simp at hu; subst hu; rfl
      case d3 => unfold maxLen; omega
      case d4 => omega
      case d5 => simp; omega
      intro v' w1 hown' hgrow _
      have hb1 : Below w.heap.size w w1 := (below_al hb _).grown hgrow (by simp; omega) (fun j hj => (hown.lt j hj).1)
      obtain ⟨g, cap, rfl, _, _⟩ := hown'.form (by omega)
      clear hown hgrow
      go_wp2
      go_ret
      exact ⟨ps ++ [s.extract fr s.size], g, cap, by simp, R2.out.symm, by simpa [strV] using hown', hb1⟩
end Go.Proofs.YtdjiodikefoliaaDoor
