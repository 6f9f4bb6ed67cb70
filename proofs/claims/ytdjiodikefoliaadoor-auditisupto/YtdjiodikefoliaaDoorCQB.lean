/- The contracts of strconv.FormatInt in base 16, of numbers below 2^32. -/
import Derived.Test.YtdjiodikefoliaaDoorCPkB
import Derived.Test.YtdjiodikefoliaaDoorCPkShelf
import Derived.Laws.BytesArg
import Derived.Test.YtdjiodikefoliaaDoorCTrAdA
namespace Bur
theorem hxM_len {n : Nat} (h : n < 4294967296) : (hxM n).length ≤ 8 := (hx_pad 8 n (by decide) (by simpa using h)).1
end Bur
namespace Go.Proofs.YtdjiodikefoliaaDoor.Pa
open Go.RowKit Go.Lib Go.Shelf

theorem and15 (q : Int) (h0 : 0 ≤ q) (h : q < 4294967296) : bits .and .u64 q 15 = q % 16 := by
  have h := bits_mask .u64 63 (by decide) (fun n _ _ => by rw [IntKind.wrap_u64]; omega) 4 (by decide) q h0 (by omega)
  have e : ((2 : Int) ^ 4 - 1) = 15 := by decide
  have e2 : ((2 : Int) ^ 4) = 16 := by decide
  rw [e, e2] at h
  exact h
/-- The digits as a text. -/
abbrev alnum : Value := .string ⟨#[48, 49, 50, 51, 52, 53, 54, 55, 56, 57, 97, 98, 99, 100, 101, 102, 103, 104, 105, 106, 107, 108, 109, 110, 111, 112, 113, 114, 115, 116, 117, 118, 119, 120, 121, 122]⟩
theorem aidx (k : Nat) (h : k < 16) : ∀ w : World, (Instr.index 9 alnum (.int .u64 (k : Int))).run Tryd.prog w = .ok (.int .u8 (Bur.hd k).toNat) w := by
  have : k = 0 ∨ k = 1 ∨ k = 2 ∨ k = 3 ∨ k = 4 ∨ k = 5 ∨ k = 6 ∨ k = 7 ∨ k = 8 ∨ k = 9 ∨ k = 10 ∨ k = 11 ∨ k = 12 ∨ k = 13 ∨ k = 14 ∨ k = 15 := by omega
  intro w
  rcases this with rfl | rfl | rfl | rfl | rfl | rfl | rfl | rfl | rfl | rfl | rfl | rfl | rfl | rfl | rfl | rfl <;> kernel_rfl
/-- Room for digits: the last ones are written. -/
structure Fb (w : World) (b : Nat) (ds : List UInt8) : Prop where
  all : ∀ j, j < 65 → (∃ z, w.cell? ⟨b, j, none⟩ = some (.int .u8 z)) ∧ w.frozen? ⟨b, j, none⟩ = false
  got : ∀ (m : Nat) (x : UInt8), ds[m]? = some x → w.cell? ⟨b, 65 - ds.length + m, none⟩ = some (.int .u8 x.toNat)
theorem Fb.lt {w : World} {b : Nat} {ds : List UInt8} (h : Fb w b ds) : b < w.heap.size := by
  obtain ⟨⟨z, hz⟩, _⟩ := h.all 0 (by decide)
  exact World.block_lt_of_cell? _ _ hz
theorem Fb.put {w : World} {b : Nat} {ds : List UInt8} (h : Fb w b ds) (x : UInt8) (hl : ds.length < 65) : Fb (w.setCell ⟨b, 65 - ds.length - 1, none⟩ (.int .u8 x.toNat)) b (x :: ds) := by
  obtain ⟨⟨z0, hz0⟩, hf0⟩ := h.all (65 - ds.length - 1) (by omega)
  have hsame : ∀ j, j ≠ 65 - ds.length - 1 → (w.setCell ⟨b, 65 - ds.length - 1, none⟩ (.int .u8 x.toNat)).cell? ⟨b, j, none⟩ = w.cell? ⟨b, j, none⟩ := fun j hj => by
    go_simp
  refine ⟨fun j hj => ?_, fun m y hm => ?_⟩
  · obtain ⟨⟨z, hz⟩, hf⟩ := h.all j hj
    refine ⟨?_, ?_⟩
    · by_cases e : j = 65 - ds.length - 1
      · subst e; exact ⟨(x.toNat : Int), by go_simp⟩
      · exact ⟨z, (hsame j e).trans hz⟩
    · by_cases e : j = 65 - ds.length - 1
      · subst e; go_simp
      · go_simp
  · rw [List.length_cons]
    cases m with
    | zero =>
      have : y = x := by simpa using hm.symm
      subst this
      rw [Nat.add_zero, show 65 - (ds.length + 1) = 65 - ds.length - 1 from by omega]
      go_simp
    | succ m =>
      have hm' : ds[m]? = some y := by simpa using hm
      have hlm := (List.getElem?_eq_some_iff.1 hm').1
      rw [show 65 - (ds.length + 1) + (m + 1) = 65 - ds.length + m from by omega, hsame _ (by omega)]
      exact h.got m y hm'
end Go.Proofs.YtdjiodikefoliaaDoor.Pa

/- The contracts of package plot's keys: write, head, NetKey, AddrKey, PrefixKey. -/
namespace Bur
theorem d2_pad : ∀ n : Fin 100, (Go.Lib.decDigits n.val).length ≤ 2 ∧ d2 (n.val : Int) = List.replicate (2 - (Go.Lib.decDigits n.val).length) 48 ++ Go.Lib.decDigits n.val := by decide +kernel
end Bur
namespace Go.Proofs.YtdjiodikefoliaaDoor.Pa
open Go.RowKit

theorem rep_app (c : Nat) (l : List UInt8) : ({ data := Array.replicate c 48 } ++ { data := l.toArray } : ByteArray) = ⟨(List.replicate c 48 ++ l).toArray⟩ := by
  apply ByteArray.ext
  simp
theorem str_app (x y : List UInt8) : ({ data := x.toArray } ++ { data := y.toArray } : ByteArray) = ⟨(x ++ y).toArray⟩ := by
  apply ByteArray.ext
  simp
theorem plNetKey (s : ByteArray) (w : World) (hs : s.size ≤ 1000) : Calls Tryd.prog 60 #[.string s] w fun e w' => e = .returned (.string ⟨(Bur.netK s.data.toList).toArray⟩) ∧ w' = w := by
  have hl : s.data.toList.length ≤ 1000 := by simpa using hs
  obtain ⟨z1, Z1⟩ : ∃ z : List UInt8, Hid (z = [110, 47] ++ s.data.toList) := ⟨[110, 47] ++ s.data.toList, Eq.refl _⟩
  have e1 : ∀ w : World, (Op.stringOp .add ⟨#[110, 47]⟩ ⟨s.data.toList.toArray⟩).run Tryd.prog w = .ok (.string ⟨z1.toArray⟩) w := cat (x := [110, 47]) (y := s.data.toList) Z1.out (by simp) (by omega)
  rw [bytes_eq] at e1
  go_enter Tryd.func60, Tryd.ntmps60
  go_wp2
  go_ret
  exact ⟨by rw [Bur.netK, ← Z1.out]; rfl, rfl⟩
end Go.Proofs.YtdjiodikefoliaaDoor.Pa

/- The contracts of package plot's PrefixKey, read, cut and ReadPrefix. -/
namespace Go.Proofs.YtdjiodikefoliaaDoor.Pa
open Go.RowKit

theorem cell_lat {w w' : World} {p : Addr} {v : Value} (hb : Below w.heap.size w w') (h : w.cell? p = some v) : w'.cell? p = some v := (hb.cell (World.block_lt_of_cell? _ _ h)).trans h
end Go.Proofs.YtdjiodikefoliaaDoor.Pa

/- The contracts of package plot's read and cut. -/
namespace Bur
theorem ix16 : ∀ n : Fin 256, Go.Lib.indexByte [48, 49, 50, 51, 52, 53, 54, 55, 56, 57, 97, 98, 99, 100, 101, 102] (UInt8.ofNat n.val) = (hxv (UInt8.ofNat n.val)).getD (-1) := by decide +kernel
theorem ix10 : ∀ n : Fin 256, Go.Lib.indexByte [48, 49, 50, 51, 52, 53, 54, 55, 56, 57] (UInt8.ofNat n.val) = (dv (UInt8.ofNat n.val)).getD (-1) := by decide +kernel
theorem ix_all {P : UInt8 → Prop} (h : ∀ n : Fin 256, P (UInt8.ofNat n.val)) (b : UInt8) : P b := by
  have := h ⟨b.toNat, b.toNat_lt⟩
  simpa using this
/-- What read tells. -/
def rdN (r : Option Int) : Int := r.getD 0
end Bur
namespace Go.Proofs.YtdjiodikefoliaaDoor.Pa
open Go.RowKit

set_option maxHeartbeats 2000000 in
set_option maxRecDepth 100000 in
theorem plRead (base : Int) (f : UInt8 → Option Int) (ds : ByteArray) (hb16 : base = 16 ∨ base = 10) (hsl : ∀ w : World, (Instr.slice 9 hexs none (some (.int .i64 base)) none).run Tryd.prog w = .ok (.string ds) w) (hix : ∀ b : UInt8, Lib.indexByte ds.data.toList b = (f b).getD (-1)) (hf : ∀ b d, f b = some d → 0 ≤ d ∧ d < base)
    (s : ByteArray) (w : World) (hs : s.size ≤ 8) : Calls Tryd.prog 62 #[.string s, .int .i64 base] w fun e w' => e = .returned (.tuple #[.int .i64 (Bur.rdN (Bur.rx f base 0 s.data.toList)), .bool (Bur.rx f base 0 s.data.toList).isSome]) ∧ Below w.heap.size w w' := by
  obtain ⟨R, hR⟩ : ∃ R, R = Bur.rx f base 0 s.data.toList := ⟨_, rfl⟩
  have hR0 : Hid (R = Bur.rx f base 0 (s.data.toList.drop 0)) := hR
  rw [← hR]
  have hbb : 2 ≤ base ∧ base ≤ 16 := by omega
  obtain ⟨bb0, bb1⟩ := hbb
  clear hR hb16
  go_enter Tryd.func62, Tryd.ntmps62
  go_wp2
  go_loopw [4, 5, 6, 7, 10] (fun n ok _ _ i wr => ∃ (k : Nat) (m : Int), k ≤ s.size ∧ i = .int .i64 k ∧ n = .int .i64 m ∧ ok = .bool false ∧ 0 ≤ m ∧ Hid (m < 16 ^ k) ∧ Hid (R = Bur.rx f base m (s.data.toList.drop k)) ∧ Below w.heap.size w wr) (fun _ _ _ _ i _ => s.size - (intOf i).toNat)
  case atStart => exact ⟨0, 0, by omega, rfl, rfl, rfl, by omega, by show (0 : Int) < 16 ^ 0; decide, hR0, below_self _⟩
  case round =>
    obtain ⟨k, m, hk, rfl, rfl, rfl, m0, m1, hM, hb⟩ := hrel
    clear hR0
    by_cases hlt : k < s.size
    · have hlt' : (k : Int) < (s.size : Int) := by omega
      have mb : m ≤ 268435455 := by
        have h1 := m1.out
        have h2 : (16 : Int) ^ k ≤ 16 ^ 7 := by
          have : (16 : Nat) ^ k ≤ 16 ^ 7 := Nat.pow_le_pow_right (by decide) (by omega)
          exact_mod_cast this
        have h3 : (16 : Int) ^ 7 = 268435456 := by decide
        omega
      have hd := Bur.drop_at s k hlt
      have hb256 : s[k].toNat < 256 := s[k].toNat_lt
      have hI := fun W => Tryd.strings_IndexByte ds (s[k].toNat : Int) W
      rw [show ((s[k].toNat : Int).toNat.toUInt8) = s[k] from by rw [Int.toNat_natCast]; simp, hix] at hI
      cases e : f s[k] with
      | none =>
        rw [e, Option.getD_none] at hI
        have hRn : Hid (R = none) := by show _ = _; rw [hM.out, hd, Bur.rx_no e]
        clear hM hd e m1
        go_wp2
        go_quiet ((go_at_call 72; exact Calls.quiet_of_same (hI _)))
        go_wp2
        go_ret2
        exact ⟨by rw [hRn.out]; rfl, below_drewN hb _⟩
      | some v =>
        obtain ⟨v0, v1⟩ := hf _ _ e
        rw [e, Option.getD_some] at hI
        have hM2 : Hid (R = Bur.rx f base (m * base + v) (s.data.toList.drop (k + 1))) := by show _ = _; rw [hM.out, hd, Bur.rx_on e]
        have hmb0 : 0 ≤ m * base := Int.mul_nonneg m0 (by omega)
        have hmb1 : m * base ≤ m * 16 := Int.mul_le_mul_of_nonneg_left bb1 m0
        have m2 : Hid (m * base + v < 16 ^ (k + 1)) := by
          have h1 := m1.out
          show _ < _
          rw [Int.pow_succ]; omega
        have v0' : ¬ v < 0 := by omega
        clear hM hd e m1
        go_wp2
        go_quiet ((go_at_call 72; exact Calls.quiet_of_same (hI _)))
        go_wp2
        exact ⟨⟨k + 1, m * base + v, by omega, by go_num, by go_num, rfl, by omega, m2, hM2, below_drewN hb _⟩, by simp [intOf]; omega⟩
    · have hlt' : ¬ (k : Int) < (s.size : Int) := by omega
      have hRn : Hid (R = some m) := by show _ = _; rw [hM.out, List.drop_of_length_le (by simp; omega)]; rfl
      clear hM m1
      go_wp2
      go_ret2
      exact ⟨by rw [hRn.out]; rfl, hb⟩
theorem plRead16 (s : ByteArray) (w : World) (hs : s.size ≤ 8) : Calls Tryd.prog 62 #[.string s, .int .i64 16] w fun e w' => e = .returned (.tuple #[.int .i64 (Bur.rdN (Bur.rx Bur.hxv 16 0 s.data.toList)), .bool (Bur.rx Bur.hxv 16 0 s.data.toList).isSome]) ∧ Below w.heap.size w w' :=
  plRead 16 Bur.hxv ⟨#[48, 49, 50, 51, 52, 53, 54, 55, 56, 57, 97, 98, 99, 100, 101, 102]⟩ (.inl rfl) (fun w => by kernel_rfl) (Bur.ix_all Bur.ix16) (fun b d h => by have := Bur.hxv_bd h; omega) s w hs
theorem plRead10 (s : ByteArray) (w : World) (hs : s.size ≤ 8) : Calls Tryd.prog 62 #[.string s, .int .i64 10] w fun e w' => e = .returned (.tuple #[.int .i64 (Bur.rdN (Bur.rx Bur.dv 10 0 s.data.toList)), .bool (Bur.rx Bur.dv 10 0 s.data.toList).isSome]) ∧ Below w.heap.size w w' :=
  plRead 10 Bur.dv ⟨#[48, 49, 50, 51, 52, 53, 54, 55, 56, 57]⟩ (.inr rfl) (fun w => by kernel_rfl) (Bur.ix_all Bur.ix10) (fun b d h => by have := Bur.dv_bd h; omega) s w hs
end Go.Proofs.YtdjiodikefoliaaDoor.Pa

/- The contracts of package plot's cut and ReadPrefix. -/
namespace Bur
theorem hasPk (c : UInt8) : ∀ l : List UInt8, Go.Lib.hasPrefix l [c, 47] = decide (l.take 2 = [c, 47])
  | [] => by simp [Go.Lib.hasPrefix]
  | [a] => by
    rw [Bool.eq_iff_iff]
    simp [Go.Lib.hasPrefix]
  | a :: b :: r => by
    rw [Bool.eq_iff_iff]
    simp only [Go.Lib.hasPrefix, List.isPrefixOf, Bool.and_true, Bool.and_eq_true, beq_iff_eq, decide_eq_true_eq, List.take_succ_cons, List.take_zero, List.cons.injEq, and_true]
    exact ⟨fun h => ⟨h.1.symm, h.2.symm⟩, fun h => ⟨h.1.symm, h.2.symm⟩⟩
end Bur
namespace Go.Proofs.YtdjiodikefoliaaDoor.Pa
open Go.RowKit

/-- What internal/bytealg.MaxLen holds: some number. -/
def MaxL (w : World) : Prop := ∃ m : Int, w.cell? ⟨1, 0, none⟩ = some (.int .i64 m)
theorem MaxL.step {w w' : World} (h : MaxL w) (hb : Below w.heap.size w w') : MaxL w' := by
  obtain ⟨m, h⟩ := h
  exact ⟨m, (hb.cell (p := ⟨1, 0, none⟩) (World.block_lt_of_cell? _ _ h)).trans h⟩
theorem cutAt (l : List UInt8) (c : UInt8) (w : World) (hl : l.length < 4294967281) (hm : MaxL w) :
    Calls Tryd.prog 71 #[.string ⟨l.toArray⟩, .string ⟨#[c]⟩] w fun e w' => e = .returned (.tuple #[.string ⟨(Bur.cutc c l).1.toArray⟩, .string ⟨(Bur.cutc c l).2.1.toArray⟩, .bool (Bur.cutc c l).2.2]) ∧ ∃ n, w' = w.drewN n := by
  obtain ⟨m, hm⟩ := hm
  have := Tryd.strings_Cut ⟨l.toArray⟩ ⟨#[c]⟩ m w (by simpa [ByteArray.size] using hl) hm
  have e : Lib.cut (ByteArray.mk l.toArray).data.toList (ByteArray.mk #[c]).data.toList = Bur.cutc c l := Bur.cut_eq c l
  rw [e] at this
  exact this
theorem cutPre (l : List UInt8) (c : UInt8) (w : World) : Calls Tryd.prog 59 #[.string ⟨l.toArray⟩, .string ⟨#[c, 47]⟩] w fun e w' => e = .returned (.tuple #[.string ⟨(if l.take 2 = [c, 47] then l.drop 2 else l).toArray⟩, .bool (decide (l.take 2 = [c, 47]))]) ∧ w' = w := by
  have := Tryd.strings_CutPrefix ⟨l.toArray⟩ ⟨#[c, 47]⟩ w
  have e1 : Lib.hasPrefix (ByteArray.mk l.toArray).data.toList (ByteArray.mk #[c, 47]).data.toList = decide (l.take 2 = [c, 47]) := Bur.hasPk c l
  rw [Lib.trimPrefix, e1] at this
  simpa using this
set_option maxHeartbeats 2000000 in
set_option maxRecDepth 100000 in
theorem plCut (c : UInt8) (l : List UInt8) (w : World) (hl : l.length < 4294967281) (hm : MaxL w) : Calls Tryd.prog 61 #[.string ⟨#[c, 47]⟩, .string ⟨l.toArray⟩] w fun e w' => (∃ x y : List UInt8, e = .returned (.tuple #[.string ⟨x.toArray⟩, .string ⟨y.toArray⟩, .bool (Bur.kcB c l)]) ∧ (Bur.kcB c l = true → x = Bur.pkN l ∧ y = Bur.pkD l)) ∧ Below w.heap.size w w' := by
  have hP := fun W => cutPre l c W
  by_cases h2 : l.take 2 = [c, 47]
  · rw [decide_eq_true h2, if_pos h2] at hP
    have hC := fun W hm => cutAt (l.drop 2) 47 W (by rw [List.length_drop]; omega) hm
    have hlen := (Bur.cutc_len 47 (l.drop 2)).1
    have hN := fun W => plName ⟨(Bur.cutc 47 (l.drop 2)).1.toArray⟩ W
    have hkc : Bur.kcB c l = ((Bur.cutc 47 (l.drop 2)).2.2 && Bur.isN (Bur.cutc 47 (l.drop 2)).1) := by
      unfold Bur.kcB
      rw [decide_eq_true h2, Bool.true_and]; rfl
    have hN1 : Bur.pkN l = (Bur.cutc 47 (l.drop 2)).1 := rfl
    have hN2 : Bur.pkD l = (Bur.cutc 47 (l.drop 2)).2.1 := rfl
    rw [hkc, hN1, hN2]
    clear hkc hN1 hN2 hlen
    generalize l.drop 2 = r at *
    generalize Bur.cutc 47 r = q at *
    obtain ⟨n, d, ok⟩ := q
    simp only at hC hN ⊢
    cases ok with
    | false =>
      rw [Bool.false_and]
      go_enter Tryd.func61, Tryd.ntmps61
      go_wp2_with (first
        | (go_at_call 59; refine (hP _).mono ?_; rintro e w1 ⟨rfl, rfl⟩)
        | (go_at_call 71; refine (hC _ hm).mono ?_; rintro e w2 ⟨rfl, k, rfl⟩))
      go_quiet (fail)
      go_wp2
      go_ret3
      exact ⟨⟨n, d, rfl, fun h => by cases h⟩, below_drewN (below_drewN (below_self _) _) _⟩
    | true =>
      rw [Bool.true_and]
      have hN' : ∀ W : World, Calls Tryd.prog 34 #[.string ⟨n.toArray⟩] W fun e w' => e = .returned (ev (Bur.nmF n)) ∧ Below W.heap.size W w' := hN
      cases hn : Bur.isN n with
      | true =>
        rw [show Bur.nmF n = 0 from if_pos hn, ev_0] at hN'
        go_enter Tryd.func61, Tryd.ntmps61
        go_wp2_with (first
          | (go_at_call 59; refine (hP _).mono ?_; rintro e w1 ⟨rfl, rfl⟩)
          | (go_at_call 71; refine (hC _ hm).mono ?_; rintro e w2 ⟨rfl, k, rfl⟩))
        go_region_held3 (fun _ => True) (trivial) ((go_at_call 34; refine (hN' _).mono ?_; rintro e w3 ⟨rfl, hb3⟩))
        go_wp2
        go_ret3
        exact ⟨⟨n, d, rfl, fun _ => ⟨rfl, rfl⟩⟩, below_via (below_drewN (below_self _) _).drew hb3⟩
      | false =>
        rw [show Bur.nmF n = 5 from if_neg (by rw [hn]; decide), ev_ne (by decide)] at hN'
        go_enter Tryd.func61, Tryd.ntmps61
        go_wp2_with (first
          | (go_at_call 59; refine (hP _).mono ?_; rintro e w1 ⟨rfl, rfl⟩)
          | (go_at_call 71; refine (hC _ hm).mono ?_; rintro e w2 ⟨rfl, k, rfl⟩))
        go_region_held3 (fun _ => True) (trivial) ((go_at_call 34; refine (hN' _).mono ?_; rintro e w3 ⟨rfl, hb3⟩))
        go_wp2
        go_ret3
        exact ⟨⟨n, d, rfl, fun h => by cases h⟩, below_via (below_drewN (below_self _) _).drew hb3⟩
  · rw [decide_eq_false h2, if_neg h2] at hP
    have hkc : Bur.kcB c l = false := by unfold Bur.kcB; rw [decide_eq_false h2]; rfl
    rw [hkc]
    go_enter Tryd.func61, Tryd.ntmps61
    go_wp2_with (go_at_call 59; refine (hP _).mono ?_; rintro e w1 ⟨rfl, rfl⟩)
    go_ret3
    exact ⟨⟨[], [], rfl, fun h => by cases h⟩, below_self _⟩
end Go.Proofs.YtdjiodikefoliaaDoor.Pa

/- The contract of package plot's ReadPrefix. -/
namespace Bur
theorem pkR_no {l : List UInt8} (h : kcB 112 l = false) : pkR l = none := by
  unfold pkR
  rw [if_neg (fun q => by rw [h] at q; exact absurd q.1 (by decide))]
theorem pkR_len {l : List UInt8} (h : (pkD l).length ≠ 10) : pkR l = none := by
  unfold pkR
  rw [if_neg (fun q => h q.2)]
theorem pkR_ok {l : List UInt8} (h : kcB 112 l = true) (h10 : (pkD l).length = 10) : pkR l = pxD (pkD l) := by
  unfold pkR
  rw [if_pos ⟨h, h10⟩]
end Bur
namespace Go.Proofs.YtdjiodikefoliaaDoor.Pa
open Go.RowKit

theorem set_at {W : World} {b i : Nat} {x u : Value} (h : W.cell? ⟨b, i, none⟩ = some x) : (W.setCell ⟨b, i, none⟩ u).cell? ⟨b, i, none⟩ = some u := by go_simp
theorem set_off {W : World} {b i j : Nat} {x u : Value} (h : W.cell? ⟨b, j, none⟩ = some x) (hij : i ≠ j) : (W.setCell ⟨b, i, none⟩ u).cell? ⟨b, j, none⟩ = some x := by
  have hji : j ≠ i := fun e => hij e.symm
  go_simp
theorem fz_set {W : World} {b i j : Nat} {u : Value} (h : W.frozen? ⟨b, j, none⟩ = false) : (W.setCell ⟨b, i, none⟩ u).frozen? ⟨b, j, none⟩ = false := by go_simp
theorem two_one {W : World} {b : Nat} {u v x y : Value} (h0 : W.cell? ⟨b, 0, none⟩ = some x) (h1 : W.cell? ⟨b, 1, none⟩ = some y) : ((W.setCell ⟨b, 0, none⟩ u).setCell ⟨b, 1, none⟩ v).cell? ⟨b, 0, none⟩ = some u ∧ ((W.setCell ⟨b, 0, none⟩ u).setCell ⟨b, 1, none⟩ v).cell? ⟨b, 1, none⟩ = some v :=
  ⟨set_off (set_at h0) (by decide), set_at (set_off h1 (by decide))⟩
theorem two_set {W : World} {b : Nat} {u v u' v' x y : Value} (h0 : W.cell? ⟨b, 0, none⟩ = some x) (h1 : W.cell? ⟨b, 1, none⟩ = some y) : ((((W.setCell ⟨b, 0, none⟩ u).setCell ⟨b, 1, none⟩ v).setCell ⟨b, 0, none⟩ u').setCell ⟨b, 1, none⟩ v').cell? ⟨b, 0, none⟩ = some u' ∧ ((((W.setCell ⟨b, 0, none⟩ u).setCell ⟨b, 1, none⟩ v).setCell ⟨b, 0, none⟩ u').setCell ⟨b, 1, none⟩ v').cell? ⟨b, 1, none⟩ = some v' :=
  two_one (two_one h0 h1).1 (two_one h0 h1).2
def rpV (n : List UInt8) : Option (Int × Int) → Value
  | some p => .tuple #[.string ⟨n.toArray⟩, pfx p.1 p.2, .nilIface]
  | none => .tuple #[.string ⟨#[]⟩, pfx 0 0, errN 5]
set_option maxHeartbeats 4000000 in
set_option maxRecDepth 100000 in
theorem plReadPrefix (l : List UInt8) (w : World) (hl : l.length < 4294967281) (hm : MaxL w) : Calls Tryd.prog 43 #[.string ⟨l.toArray⟩] w fun e w' => e = .returned (rpV (Bur.pkN l) (Bur.pkR l)) ∧ Below w.heap.size w w' := by
  have hb0 := below_al (below_self w) (.cells #[.int .i64 0, .int .i64 0] 24)
  have hC := plCut 112 l (w.alloc (.cells #[.int .i64 0, .int .i64 0] 24)) hl (hm.step hb0)
  have hnl : (Bur.pkN l).length ≤ l.length := Nat.le_trans (Bur.cutc_len 47 (l.drop 2)).1 (by rw [List.length_drop]; omega)
  obtain ⟨R, hR⟩ : ∃ R, R = Bur.pkR l := ⟨_, rfl⟩
  rw [← hR]
  have fin : ∀ {W : World} (u v : Value), Below w.heap.size w W → Below w.heap.size w ((W.setCell ⟨w.heap.size, 0, none⟩ u).setCell ⟨w.heap.size, 1, none⟩ v) := fun u v h => (h.setCell (Nat.le_refl _) _).setCell (Nat.le_refl _) _
  go_enter Tryd.func43, Tryd.ntmps43
  go_wp2_with fail
  refine hC.mono ?_
  clear hC
  rintro e w1 ⟨⟨x, y, rfl, hxy⟩, hb1⟩
  have hbw := below_via hb0 hb1
  have glw : w.heap.size < w1.heap.size := by have := hb1.size; simp at this; omega
  have q0 : w1.cell? ⟨w.heap.size, 0, none⟩ = some (.int .i64 0) := (hb1.cell (p := ⟨w.heap.size, 0, none⟩) (by simp)).trans (by simp)
  have q1 : w1.cell? ⟨w.heap.size, 1, none⟩ = some (.int .i64 0) := (hb1.cell (p := ⟨w.heap.size, 1, none⟩) (by simp)).trans (by simp)
  have f0 : w1.frozen? ⟨w.heap.size, 0, none⟩ = false := (hb1.frozen (p := ⟨w.heap.size, 0, none⟩) (by simp)).trans (by simp)
  have f1 : w1.frozen? ⟨w.heap.size, 1, none⟩ = false := (hb1.frozen (p := ⟨w.heap.size, 1, none⟩) (by simp)).trans (by simp)
  clear hb0 hb1 hm
  cases hk : Bur.kcB 112 l with
  | false =>
    have hR0 : Hid (R = none) := by show _ = _; rw [hR]; exact Bur.pkR_no hk
    clear hR hk hxy
    go_wp2
    exact bodyPost_ret (v := rpV [] none) (by simp [results, Tryd.results43, go_sem, rpV, q0, q1]) rfl ⟨by rw [hR0.out]; rfl, fin _ _ hbw⟩
  | true =>
    obtain ⟨rfl, rfl⟩ := hxy hk
    by_cases h10 : (Bur.pkD l).length = 10
    · have hRk := hR.trans (Bur.pkR_ok hk h10)
      obtain ⟨nn, hnn⟩ : ∃ nn, nn = Bur.pkN l := ⟨_, rfl⟩
      rw [← hnn]
      have hNN : Hid (Bur.pkN l = nn) := hnn.symm
      clear hnn
      generalize Bur.pkD l = d at *
      clear hR hk hxy
      have he10 : ((d.length : Int) == 10) = true := by simp [h10]
      have hx8 : ((ByteArray.mk d.toArray).extract 0 8).data.toList = d.take 8 := by rw [Bur.ext_list]; rfl
      have hx2 : ((ByteArray.mk d.toArray).extract 8 10).data.toList = d.drop 8 := by
        rw [Bur.ext_list]
        show (d.drop 8).take _ = _
        rw [List.take_of_length_le (by rw [List.length_drop]; omega)]
      have hd8 : (8 : Int) ≤ (d.length : Int) := by omega
      have r16 := fun W => plRead16 ((ByteArray.mk d.toArray).extract 0 8) W (by have h1 := congrArg List.length hx8; simp at h1 ⊢; omega)
      have r10 := fun W => plRead10 ((ByteArray.mk d.toArray).extract 8 10) W (by have h1 := congrArg List.length hx2; simp at h1 ⊢; omega)
      rw [hx8] at r16
      rw [hx2] at r10
      unfold Bur.pxD at hRk
      clear hx8 hx2
      cases eA : Bur.rx Bur.hxv 16 0 (d.take 8) with
      | none =>
        rw [eA] at r16 hRk
        have hR0 : Hid (R = none) := by show _ = _; rw [hRk]
        clear hRk eA
        have r16' : ∀ W : World, Calls Tryd.prog 62 #[.string ((ByteArray.mk d.toArray).extract 0 8), .int .i64 16] W fun e w' => e = .returned (.tuple #[.int .i64 0, .bool false]) ∧ Below W.heap.size W w' := r16
        have r10' : ∀ W : World, Calls Tryd.prog 62 #[.string ((ByteArray.mk d.toArray).extract 8 10), .int .i64 10] W fun e w' => e = .returned (.tuple #[.int .i64 (Bur.rdN (Bur.rx Bur.dv 10 0 (d.drop 8))), .bool (Bur.rx Bur.dv 10 0 (d.drop 8)).isSome]) ∧ Below W.heap.size W w' := r10
        generalize Bur.rdN (Bur.rx Bur.dv 10 0 (d.drop 8)) = nv at r10'
        generalize (Bur.rx Bur.dv 10 0 (d.drop 8)).isSome = nb at r10'
        clear r16 r10
        go_wp2_with (first
          | (go_at_call_of 62 (Value.int IntKind.i64 16); refine (r16' _).mono ?_; rintro e w2 ⟨rfl, hb2⟩)
          | (go_at_call_of 62 (Value.int IntKind.i64 10); refine (r10' _).mono ?_; rintro e w3 ⟨rfl, hb3⟩; have hb13 := below_via hb2 hb3; have hbz := below_via hbw hb13; have q03 := (hb13.cell (p := ⟨w.heap.size, 0, none⟩) glw).trans q0; have q13 := (hb13.cell (p := ⟨w.heap.size, 1, none⟩) glw).trans q1; have f03 := (hb13.frozen (p := ⟨w.heap.size, 0, none⟩) glw).trans f0; have f13 := (hb13.frozen (p := ⟨w.heap.size, 1, none⟩) glw).trans f1; have hs13 := hb13.size))
        exact bodyPost_ret (v := rpV [] none) (by simp [results, Tryd.results43, go_sem, rpV, (two_set q03 q13).1, (two_set q03 q13).2]) rfl ⟨by rw [hR0.out]; rfl, fin _ _ (fin _ _ hbz)⟩
      | some a =>
        rw [eA] at r16 hRk
        have r16' : ∀ W : World, Calls Tryd.prog 62 #[.string ((ByteArray.mk d.toArray).extract 0 8), .int .i64 16] W fun e w' => e = .returned (.tuple #[.int .i64 a, .bool true]) ∧ Below W.heap.size W w' := r16
        clear r16 eA
        cases eN : Bur.rx Bur.dv 10 0 (d.drop 8) with
        | none =>
          rw [eN] at r10 hRk
          have r10' : ∀ W : World, Calls Tryd.prog 62 #[.string ((ByteArray.mk d.toArray).extract 8 10), .int .i64 10] W fun e w' => e = .returned (.tuple #[.int .i64 0, .bool false]) ∧ Below W.heap.size W w' := r10
          have hR0 : Hid (R = none) := hRk
          clear r10 eN hRk
          go_wp2_with (first
            | (go_at_call_of 62 (Value.int IntKind.i64 16); refine (r16' _).mono ?_; rintro e w2 ⟨rfl, hb2⟩)
            | (go_at_call_of 62 (Value.int IntKind.i64 10); refine (r10' _).mono ?_; rintro e w3 ⟨rfl, hb3⟩; have hb13 := below_via hb2 hb3; have hbz := below_via hbw hb13; have q03 := (hb13.cell (p := ⟨w.heap.size, 0, none⟩) glw).trans q0; have q13 := (hb13.cell (p := ⟨w.heap.size, 1, none⟩) glw).trans q1; have f03 := (hb13.frozen (p := ⟨w.heap.size, 0, none⟩) glw).trans f0; have f13 := (hb13.frozen (p := ⟨w.heap.size, 1, none⟩) glw).trans f1; have hs13 := hb13.size))
          exact bodyPost_ret (v := rpV [] none) (by simp [results, Tryd.results43, go_sem, rpV, (two_set q03 q13).1, (two_set q03 q13).2]) rfl ⟨by rw [hR0.out]; rfl, fin _ _ (fin _ _ hbz)⟩
        | some n =>
          rw [eN] at r10 hRk
          have r10' : ∀ W : World, Calls Tryd.prog 62 #[.string ((ByteArray.mk d.toArray).extract 8 10), .int .i64 10] W fun e w' => e = .returned (.tuple #[.int .i64 n, .bool true]) ∧ Below W.heap.size W w' := r10
          simp only at hRk
          clear r10 eN
          by_cases hf : Bur.fault a n = 0
          · rw [if_pos hf] at hRk
            have hR0 : Hid (R = some (a, n)) := hRk
            clear hRk
            have hK := fun W => check_ok a n W hf
            clear hf
            go_wp2_with (first
              | (go_at_call_of 62 (Value.int IntKind.i64 16); refine (r16' _).mono ?_; rintro e w2 ⟨rfl, hb2⟩)
              | (go_at_call_of 62 (Value.int IntKind.i64 10); refine (r10' _).mono ?_; rintro e w3 ⟨rfl, hb3⟩; have hb13 := below_via hb2 hb3; have hbz := below_via hbw hb13; have q03 := (hb13.cell (p := ⟨w.heap.size, 0, none⟩) glw).trans q0; have q13 := (hb13.cell (p := ⟨w.heap.size, 1, none⟩) glw).trans q1; have f03 := (hb13.frozen (p := ⟨w.heap.size, 0, none⟩) glw).trans f0; have f13 := (hb13.frozen (p := ⟨w.heap.size, 1, none⟩) glw).trans f1; have hs13 := hb13.size)
              | (go_at_call 37; refine (hK _).mono ?_; rintro e w5 ⟨rfl, hc5, hf5, hs5, hb5⟩; have hszA : w.heap.size < ((w3.setCell ⟨w.heap.size, 0, none⟩ (.int .i64 a)).setCell ⟨w.heap.size, 1, none⟩ (.int .i64 n)).heap.size := World.block_lt_of_cell? _ _ (two_one q03 q13).1; have q05 : w5.cell? ⟨w.heap.size, 0, none⟩ = some (.int .i64 a) := (hc5 _).trans ((World.cell?_alloc_lt _ _ ⟨w.heap.size, 0, none⟩ hszA).trans (two_one q03 q13).1); have q15 : w5.cell? ⟨w.heap.size, 1, none⟩ = some (.int .i64 n) := (hc5 _).trans ((World.cell?_alloc_lt _ _ ⟨w.heap.size, 1, none⟩ hszA).trans (two_one q03 q13).2); have f05 : w5.frozen? ⟨w.heap.size, 0, none⟩ = false := (hf5 _).trans (((below_al (below_self _) _).frozen (p := ⟨w.heap.size, 0, none⟩) hszA).trans (fz_set (fz_set f03))); have f15 : w5.frozen? ⟨w.heap.size, 1, none⟩ = false := (hf5 _).trans (((below_al (below_self _) _).frozen (p := ⟨w.heap.size, 1, none⟩) hszA).trans (fz_set (fz_set f13))); have hbv := below_via (below_al (fin (.int .i64 a) (.int .i64 n) hbz) (pcs a n)) hb5; clear hc5 hf5 hb5 hs5))
            go_region_held3 (fun wy => wy.cell? ⟨w.heap.size, 0, none⟩ = some (.int .i64 a) ∧ wy.cell? ⟨w.heap.size, 1, none⟩ = some (.int .i64 n)) (go_simp) (fail)
            go_wp2
            exact bodyPost_ret (v := rpV nn (some (a, n))) (by simp [results, Tryd.results43, go_sem, rpV, (two_one q05 q15).1, (two_one q05 q15).2]) rfl ⟨by rw [hR0.out, hNN.out], below_drewN (fin _ _ hbv) _⟩
          · rw [if_neg hf] at hRk
            have hR0 : Hid (R = none) := hRk
            clear hRk
            have hK := fun W => check_no a n W hf
            clear hf
            go_wp2_with (first
              | (go_at_call_of 62 (Value.int IntKind.i64 16); refine (r16' _).mono ?_; rintro e w2 ⟨rfl, hb2⟩)
              | (go_at_call_of 62 (Value.int IntKind.i64 10); refine (r10' _).mono ?_; rintro e w3 ⟨rfl, hb3⟩; have hb13 := below_via hb2 hb3; have hbz := below_via hbw hb13; have q03 := (hb13.cell (p := ⟨w.heap.size, 0, none⟩) glw).trans q0; have q13 := (hb13.cell (p := ⟨w.heap.size, 1, none⟩) glw).trans q1; have f03 := (hb13.frozen (p := ⟨w.heap.size, 0, none⟩) glw).trans f0; have f13 := (hb13.frozen (p := ⟨w.heap.size, 1, none⟩) glw).trans f1; have hs13 := hb13.size)
              | (go_at_call 37; refine (hK _).mono ?_; rintro e w5 ⟨rfl, hc5, hf5, hs5, hb5⟩; have hszA : w.heap.size < ((w3.setCell ⟨w.heap.size, 0, none⟩ (.int .i64 a)).setCell ⟨w.heap.size, 1, none⟩ (.int .i64 n)).heap.size := World.block_lt_of_cell? _ _ (two_one q03 q13).1; have q05 : w5.cell? ⟨w.heap.size, 0, none⟩ = some (.int .i64 a) := (hc5 _).trans ((World.cell?_alloc_lt _ _ ⟨w.heap.size, 0, none⟩ hszA).trans (two_one q03 q13).1); have q15 : w5.cell? ⟨w.heap.size, 1, none⟩ = some (.int .i64 n) := (hc5 _).trans ((World.cell?_alloc_lt _ _ ⟨w.heap.size, 1, none⟩ hszA).trans (two_one q03 q13).2); have f05 : w5.frozen? ⟨w.heap.size, 0, none⟩ = false := (hf5 _).trans (((below_al (below_self _) _).frozen (p := ⟨w.heap.size, 0, none⟩) hszA).trans (fz_set (fz_set f03))); have f15 : w5.frozen? ⟨w.heap.size, 1, none⟩ = false := (hf5 _).trans (((below_al (below_self _) _).frozen (p := ⟨w.heap.size, 1, none⟩) hszA).trans (fz_set (fz_set f13))); have hbv := below_via (below_al (fin (.int .i64 a) (.int .i64 n) hbz) (pcs a n)) hb5; clear hc5 hf5 hb5 hs5))
            exact bodyPost_ret (v := rpV [] none) (by simp [results, Tryd.results43, go_sem, rpV, (two_one q05 q15).1, (two_one q05 q15).2]) rfl ⟨by rw [hR0.out]; rfl, fin _ _ hbv⟩
    · have hR0 : Hid (R = none) := by show _ = _; rw [hR]; exact Bur.pkR_len h10
      have he10 : (((Bur.pkD l).length : Int) == 10) = false := beq_eq_false_iff_ne.2 (by omega)
      clear hR hk hxy h10
      go_wp2
      exact bodyPost_ret (v := rpV [] none) (by simp [results, Tryd.results43, go_sem, rpV, q0, q1]) rfl ⟨by rw [hR0.out]; rfl, fin _ _ hbw⟩
end Go.Proofs.YtdjiodikefoliaaDoor.Pa
