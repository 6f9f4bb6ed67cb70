/- The contracts of strconv.FormatInt in base 16, of numbers below 2^32. -/
import Derived.Test.YtdokenlljeajmaaDoorPkB
import Derived.Test.YtdokenlljeajmaaDoorPkShelf
import Derived.Laws.BytesArg
namespace Bur
theorem hxM_len {n : Nat} (h : n < 4294967296) : (hxM n).length ≤ 8 := (hx_pad 8 n (by decide) (by simpa using h)).1
end Bur
namespace Go.Proofs.YtdokenlljeajmaaDoor
open Go.RowKit Go.Lib Go.Shelf

/-- The table of math/bits in its variable. -/
abbrev Tab (w : World) : Prop := TabAt 4 Lib.deBruijn64tab w
theorem Tab.lt {w : World} (h : Tab w) : 4 < w.heap.size := by
  have := World.block_lt_of_cell? _ _ (h 0 (by decide))
  exact this
theorem Tab.step {w w' : World} (h : Tab w) (hb : Below w.heap.size w w') : Tab w' := fun j hj => (hb.cell (p := ⟨4, j, none⟩) h.lt).trans (h j hj)
theorem pkTz (w : World) (hT : Tab w) : Calls Tryd.prog 74 #[.int .u64 16] w fun e w' => e = .returned (.int .i64 4) ∧ w' = w := by
  have := Any7.bits_TrailingZeros Tryd.layTz 16 (by decide) w (fun _ => hT)
  rwa [show (Lib.ctz 64 16 : Int) = 4 from by decide] at this
theorem pkPow (w : World) : Calls Tryd.prog 73 #[.int .i64 16] w fun e w' => e = .returned (.bool true) ∧ w' = w := by
  go_enter Tryd.func73, Tryd.ntmps73
  go_wp2
  go_ret
  exact ⟨rfl, rfl⟩
theorem and15 (q : Int) (h0 : 0 ≤ q) (h : q < 4294967296) : bits .and .u64 q 15 = q % 16 := by
  have h := bits_mask .u64 63 (by decide) (fun n _ _ => by rw [IntKind.wrap_u64]; omega) 4 (by decide) q h0 (by omega)
  have e : ((2 : Int) ^ 4 - 1) = 15 := by decide
  have e2 : ((2 : Int) ^ 4) = 16 := by decide
  rw [e, e2] at h
  exact h
/-- The digits as a text. -/
abbrev alnum : Value := .string ⟨#[48, 49, 50, 51, 52, 53, 54, 55, 56, 57, 97, 98, 99, 100, 101, 102, 103, 104, 105, 106, 107, 108, 109, 110, 111, 112, 113, 114, 115, 116, 117, 118, 119, 120, 121, 122]⟩
theorem aidx (k : Nat) (h : k < 16) : ∀ w : World, (Instr.index 9 alnum (.int .u64 (k : Int))).run Tryd.prog w = .ok (.int .u8 (Bur.hd k).toNat) w := by
  have : k = 0 ∨ k = 1 ∨ k = 2 ∨ k = 3 ∨ k = 4 ∨ k = 5 ∨ k = 6 ∨ k = 7 ∨ k = 8 ∨ k = 9 ∨ k = 10 ∨ k = 11 ∨ k = 12 ∨ k = 13 ∨ k = 14 ∨ k = 15 := by omega
  intro w
  rcases this with rfl | rfl | rfl | rfl | rfl | rfl | rfl | rfl | rfl | rfl | rfl | rfl | rfl | rfl | rfl | rfl <;> kernel_rfl
/-- Room for digits: the last ones are written. -/
structure Fb (w : World) (b : Nat) (ds : List UInt8) : Prop where
  all : ∀ j, j < 65 → (∃ z, w.cell? ⟨b, j, none⟩ = some (.int .u8 z)) ∧ w.frozen? ⟨b, j, none⟩ = false
  got : ∀ (m : Nat) (x : UInt8), ds[m]? = some x → w.cell? ⟨b, 65 - ds.length + m, none⟩ = some (.int .u8 x.toNat)
set_option maxRecDepth 100000 in
theorem Fb.new (w : World) : Fb (w.alloc (.cells Tryd.zeroCells119 119)) w.heap.size [] := by
  refine ⟨fun j hj => ?_, fun m x h => by simp at h⟩
  have hz : Tryd.zeroCells119 = Array.replicate 65 (.int .u8 0) := by kernel_rfl
  rw [hz]
  exact ⟨⟨0, by simp [hj]⟩, by simp⟩
theorem Fb.lt {w : World} {b : Nat} {ds : List UInt8} (h : Fb w b ds) : b < w.heap.size := by
  obtain ⟨⟨z, hz⟩, _⟩ := h.all 0 (by decide)
  exact World.block_lt_of_cell? _ _ hz
theorem Fb.put {w : World} {b : Nat} {ds : List UInt8} (h : Fb w b ds) (x : UInt8) (hl : ds.length < 65) : Fb (w.setCell ⟨b, 65 - ds.length - 1, none⟩ (.int .u8 x.toNat)) b (x :: ds) := by
  obtain ⟨⟨z0, hz0⟩, hf0⟩ := h.all (65 - ds.length - 1) (by omega)
  have hsame : ∀ j, j ≠ 65 - ds.length - 1 → (w.setCell ⟨b, 65 - ds.length - 1, none⟩ (.int .u8 x.toNat)).cell? ⟨b, j, none⟩ = w.cell? ⟨b, j, none⟩ := fun j hj => by
    go_simp
  refine ⟨fun j hj => ?_, fun m y hm => ?_⟩
  · obtain ⟨⟨z, hz⟩, hf⟩ := h.all j hj
    refine ⟨?_, ?_⟩
    · by_cases e : j = 65 - ds.length - 1
      · subst e; exact ⟨(x.toNat : Int), by go_simp⟩
      · exact ⟨z, (hsame j e).trans hz⟩
    · by_cases e : j = 65 - ds.length - 1
      · subst e; go_simp
      · go_simp
  · rw [List.length_cons]
    cases m with
    | zero =>
      have : y = x := by simpa using hm.symm
      subst this
      rw [Nat.add_zero, show 65 - (ds.length + 1) = 65 - ds.length - 1 from by omega]
      go_simp
    | succ m =>
      have hm' : ds[m]? = some y := by simpa using hm
      have hlm := (List.getElem?_eq_some_iff.1 hm').1
      rw [show 65 - (ds.length + 1) + (m + 1) = 65 - ds.length + m from by omega, hsame _ (by omega)]
      exact h.got m y hm'
theorem fbStr {w : World} {b : Nat} {ds : List UInt8} (h : Fb w b ds) (off n cap : Nat) (ho : off = 65 - ds.length) (hn : n = ds.length) : (convert 82 9 (.slice (some ⟨b, off, none⟩) n cap)).run Tryd.prog w = .ok (.string ⟨ds.toArray⟩) w := by
  subst ho hn
  have hlen : (ds.map (fun x => (x.toNat : Int))).length = ds.length := by simp
  have := run_convert_bytes_arg (P := Tryd.prog) w 82 5 Tryd.underlying82 Tryd.underlying5 b (65 - ds.length) ds.length cap (ds.map (fun x => (x.toNat : Int))) hlen (fun j hj => by
    rw [h.got j ds[j] (List.getElem?_eq_getElem hj)]
    simp [List.getD, hj]) 9 Tryd.underlying9
  have hid : ((fun n : Int => UInt8.ofNat n.toNat) ∘ fun x : UInt8 => (x.toNat : Int)) = id := by funext x; simp
  rw [this, strOfNums, List.map_map, hid, List.map_id]
set_option maxRecDepth 100000 in
set_option maxHeartbeats 4000000 in
theorem pkFmtBits (n : Nat) (hn : n < 4294967296) (w : World) (h : Tab w) : Calls Tryd.prog 62 #[.slice none 0 0, .int .u64 (n : Int), .int .i64 16, .bool false, .bool false] w fun e w' => e = .returned (.tuple #[.slice none 0 0, .string ⟨(Bur.hxM n).toArray⟩]) ∧ Below w.heap.size w w' := by
  have hb0 := below_al (below_self w) (.cells Tryd.zeroCells119 119)
  have hT := h.step hb0
  have fb0 := Fb.new w
  have hl8 := Bur.hxM_len hn
  go_enter Tryd.func62, Tryd.ntmps62
  go_wp2_with (first
    | (go_at_call 73; refine (pkPow _).mono ?_; rintro e w1 ⟨rfl, rfl⟩)
    | (go_at_call 74; refine (pkTz _ hT).mono ?_; rintro e w1 ⟨rfl, rfl⟩))
  go_loopw [1, 13] (fun u i wr => ∃ (q : Nat) (ds : List UInt8) (iv : Int), u = .int .u64 (q : Int) ∧ i = .int .i64 iv ∧ Hid (iv = 65 - ds.length) ∧ 57 ≤ iv ∧ iv ≤ 65 ∧ q < 4294967296 ∧ Hid (Bur.hxM n = Bur.hxM q ++ ds) ∧ Fb wr w.heap.size ds ∧ Below w.heap.size w wr) (fun u _ _ => (intOf u).toNat)
  case atStart => exact ⟨n, [], 65, rfl, rfl, rfl, by omega, by omega, hn, by show _ = _; simp, fb0, hb0⟩
  case round =>
    obtain ⟨q, ds, iv, rfl, rfl, hiv, i0, i1, hq, hx, fb, hb⟩ := hrel
    clear fb0 hb0 hT
    have hpos := Bur.hxM_pos q
    have hlen : (Bur.hxM q).length + ds.length ≤ 8 := by rw [← List.length_append, ← hx.out]; exact hl8
    have hiv' := hiv.out
    obtain ⟨J, rfl⟩ : ∃ J : Nat, iv = (J : Int) + 1 := ⟨(iv - 1).toNat, by omega⟩
    have hJ : J = 65 - ds.length - 1 := by omega
    have hJ65 : (J : Int) < 65 := by omega
    obtain ⟨⟨z0, hz0⟩, hf0⟩ := fb.all J (by omega)
    have hbw := fb.lt
    by_cases h16 : q < 16
    · have h16' : ¬ (16 : Int) ≤ (q : Int) := by omega
      have hai := aidx q h16
      have fb2 := fb.put (Bur.hd q) (by omega)
      rw [← hJ] at fb2
      have hfin : Hid (Bur.hxM n = Bur.hd q :: ds) := by show _ = _; rw [hx.out, Bur.hxM_small h16]; rfl
      have hcv := fun cap => fbStr fb2 J (65 - J) cap (by rw [List.length_cons]; omega) (by rw [List.length_cons]; omega)
      have hJl : (J : Int) ≤ 65 := by omega
      have hbe : Below w.heap.size w (wr.setCell ⟨w.heap.size, J, none⟩ (.int .u8 (Bur.hd q).toNat)) := hb.setCell (Nat.le_refl _) _
      clear hx hiv hiv' hlen hpos fb hJ
      generalize Bur.hd q = c at *
      go_wp2
      go_ret2
      exact ⟨by rw [hfin.out]; rfl, hbe⟩
    · have h16' : (16 : Int) ≤ (q : Int) := by omega
      obtain ⟨k, hk⟩ : ∃ k : Nat, k = q % 16 := ⟨_, rfl⟩
      have hk16 : k < 16 := by omega
      have hnd : bits .and .u64 (q : Int) 15 = (k : Int) := by rw [and15 (q : Int) (by omega) (by omega)]; omega
      have hai := aidx k hk16
      have fb2 := fb.put (Bur.hd k) (by omega)
      rw [← hJ] at fb2
      have hx2 : Hid (Bur.hxM n = Bur.hxM (q / 16) ++ (Bur.hd k :: ds)) := by show _ = _; rw [hx.out, Bur.hxM_big h16, hk]; simp
      have hl2 : Hid ((J : Int) = 65 - ((Bur.hd k :: ds).length : Nat)) := by show _ = _; rw [List.length_cons]; omega
      have hbe : Below w.heap.size w (wr.setCell ⟨w.heap.size, J, none⟩ (.int .u8 (Bur.hd k).toNat)) := hb.setCell (Nat.le_refl _) _
      have hlen2 : 57 ≤ (J : Int) := by
        have h2 := Bur.hxM_pos (q / 16)
        have h3 : (Bur.hxM (q / 16)).length + (ds.length + 1) ≤ 8 := by
          have := hl8
          rw [hx2.out, List.length_append, List.length_cons] at this
          exact this
        omega
      clear hx hiv hiv' hlen hpos fb hJ hk
      go_wp2
      exact ⟨⟨q / 16, Bur.hd k :: ds, J, by go_num, by go_num, hl2, hlen2, by omega, by omega, hx2, fb2, hbe⟩, by simp [intOf]; omega⟩
theorem pkFmtI (n : Nat) (hn : n < 4294967296) (w : World) (h : Tab w) : Calls Tryd.prog 46 #[.int .i64 (n : Int), .int .i64 16] w fun e w' => e = .returned (.string ⟨(Bur.hxM n).toArray⟩) ∧ Below w.heap.size w w' := by
  go_enter Tryd.func46, Tryd.ntmps46
  go_wp2_with (go_at_call 62; refine (pkFmtBits n hn _ h).mono ?_; rintro e w1 ⟨rfl, hb1⟩)
  go_ret
  exact ⟨rfl, hb1⟩
theorem pkFmt (n : Nat) (hn : n < 4294967296) (w : World) (h : Tab w) : Calls Tryd.prog 36 #[.int .i64 (n : Int), .int .i64 16] w fun e w' => e = .returned (.string ⟨(Bur.hxM n).toArray⟩) ∧ Below w.heap.size w w' := by
  go_enter Tryd.func36, Tryd.ntmps36
  go_wp2_with (go_at_call 46; refine (pkFmtI n hn _ h).mono ?_; rintro e w1 ⟨rfl, hb1⟩)
  go_ret
  exact ⟨rfl, hb1⟩
theorem rep48 : ∀ (c : Nat), Lib.repeatL [48] c = List.replicate c 48
  | 0 => rfl
  | c + 1 => by rw [Lib.repeatL, rep48 c]; rfl
theorem pkRep (c : Nat) (hc : c ≤ 8) (w : World) : Calls Tryd.prog 37 #[.string ⟨#[48]⟩, .int .i64 (c : Int)] w fun e w' => e = .returned (.string ⟨(List.replicate c (48 : UInt8)).toArray⟩) ∧ Below w.heap.size w w' := by
  have := Tryd.strings_Repeat ⟨#[48]⟩ c w (by omega) (by show 1 * c ≤ _; omega)
  rw [show (ByteArray.mk #[48]).data.toList = [48] from rfl, rep48] at this
  exact this
end Go.Proofs.YtdokenlljeajmaaDoor
