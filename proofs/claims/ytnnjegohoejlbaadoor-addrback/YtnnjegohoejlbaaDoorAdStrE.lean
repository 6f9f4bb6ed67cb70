/- The contracts of PrintPrefix and ParsePrefix. -/
import Derived.Test.YtnnjegohoejlbaaDoorAdStrD
namespace Bur
open Go
theorem txt_len {a b c d : Int} (a0 : 0 ≤ a) (a1 : a ≤ 255) (b0 : 0 ≤ b) (b1 : b ≤ 255) (c0 : 0 ≤ c) (c1 : c ≤ 255) (d0 : 0 ≤ d) (d1 : d ≤ 255) : (txt a b c d).length ≤ 15 := by
  have := dec_len a0 (by omega)
  have := dec_len b0 (by omega)
  have := dec_len c0 (by omega)
  have := dec_len d0 (by omega)
  simp [txt]
  omega
/-- The text of a prefix. -/
def txtP (a l : Int) : List UInt8 := txtA a ++ 47 :: dec l
/-- A text cut at the slash: an address ahead, a length behind. -/
def sw (l : List UInt8) : List UInt8 := (cutc 47 l).1
def sr (l : List UInt8) : List UInt8 := (cutc 47 l).2.1
def sf (l : List UInt8) : Bool := (cutc 47 l).2.2
def okP (l : List UInt8) : Bool := sf l && okO (sw l) && rdB 32 (sr l)
def preA (l : List UInt8) : Int := ((ov (sw l) 0 * 256 + ov (sw l) 1) * 256 + ov (sw l) 2) * 256 + ov (sw l) 3
def preL (l : List UInt8) : Int := rdV 32 (sr l)
theorem preA_bd (l : List UInt8) : 0 ≤ preA l ∧ preA l ≤ 4294967295 := by
  have := ov_bd (sw l) 0
  have := ov_bd (sw l) 1
  have := ov_bd (sw l) 2
  have := ov_bd (sw l) 3
  unfold preA
  omega
theorem sw_len (l : List UInt8) : (sw l).length ≤ l.length := (cutc_len 47 l).1
theorem sr_len (l : List UInt8) : (sr l).length ≤ l.length := (cutc_len 47 l).2
def pfF (l : List UInt8) : Int := if okP l = true then fault (preA l) (preL l) else 5
def pfA (l : List UInt8) : Int := if pfF l = 0 then preA l else 0
def pfL (l : List UInt8) : Int := if pfF l = 0 then preL l else 0
end Bur
namespace Go.Proofs.YtnnjegohoejlbaaDoor
open Go.RowKit

theorem printPrefix_no (a l : Int) (w : World) (h : Bur.fault a l ≠ 0) :
    Calls Tryd.prog 17 #[pfx a l] w fun e w' => e = .returned (.tuple #[.string ⟨#[]⟩, errN (Bur.fault a l)]) ∧ Below w.heap.size w w' := by
  go_enter Tryd.func17, Tryd.ntmps17
  go_wp2_with (go_at_call 16; refine (check_no _ _ _ h).mono ?_; rintro e w' ⟨rfl, hc, hf, hs, hb⟩)
  go_ret2
  exact ⟨rfl, below_via (below_al (below_al (below_self _) _) _) hb⟩

set_option maxHeartbeats 1000000 in
theorem printPrefix_ok (a l : Int) (w : World) (h : Bur.fault a l = 0) (ht : Pow10 w) :
    Calls Tryd.prog 17 #[pfx a l] w fun e w' => e = .returned (.tuple #[.string ⟨(Bur.txtP a l).toArray⟩, .nilIface]) ∧ Below w.heap.size w w' := by
  obtain ⟨h0, h1, a0, a1, hz⟩ := Bur.fault_ok h
  have ha := Bur.isA_mk a0 a1
  have lt := Bur.txt_len (a := a / 16777216) (b := a / 65536 % 256) (c := a / 256 % 256) (d := a % 256) (by omega) (by omega) (by omega) (by omega) (by omega) (by omega) (by omega) (by omega)
  have ll := Bur.dec_len h0 (by omega)
  obtain ⟨z1, Z1⟩ : ∃ z : List UInt8, Hid (z = Bur.txt (a / 16777216) (a / 65536 % 256) (a / 256 % 256) (a % 256) ++ [47]) := ⟨Bur.txt (a / 16777216) (a / 65536 % 256) (a / 256 % 256) (a % 256) ++ [47], Eq.refl _⟩
  have e1 := cat (x := Bur.txt (a / 16777216) (a / 65536 % 256) (a / 256 % 256) (a % 256)) (y := [47]) Z1 (by omega) (by simp)
  have l1 : z1.length ≤ 16 := by rw [Z1.out]; simp; omega
  obtain ⟨z2, Z2⟩ : ∃ z : List UInt8, Hid (z = z1 ++ Bur.dec l) := ⟨_, Eq.refl _⟩
  have e2 := cat (x := z1) (y := Bur.dec l) Z2 (by omega) (by omega)
  have E : Hid (Bur.txtP a l = z2) := by show _ = _; rw [Z2.out, Z1.out]; simp [Bur.txtP, Bur.txtA]
  rw [E.out]
  go_enter Tryd.func17, Tryd.ntmps17
  go_wp2_with (go_at_call 16; refine (check_ok _ _ _ h).mono ?_; rintro e w' ⟨rfl, hc, hf, hs, hb⟩)
  have k0 : w'.cell? ⟨w.heap.size, 0, none⟩ = some (.int .i64 a) := by go_simp
  have k1 : w'.cell? ⟨w.heap.size, 1, none⟩ = some (.int .i64 l) := by go_simp
  replace ht := ((ht.alloc _).alloc _).step hb
  have hb' := below_via (below_al (below_al (below_self w) _) _) hb
  clear hc hf hs hb h hz lt ll l1
  go_region_held3 (fun w2 => w2.cell? ⟨w.heap.size, 0, none⟩ = some (.int .i64 a) ∧ w2.cell? ⟨w.heap.size, 1, none⟩ = some (.int .i64 l)) (go_simp)
    (first
      | (go_at_call 35; refine (split _ _ ha).mono ?_; rintro e w1 ⟨rfl, hb1⟩; have q1 := cell_later hb1 k0; have q2 := cell_later hb1 k1)
      | (go_at_call 34; refine (writeOctets _ _ _ _ _ (by exact Pow10.step (w := w'.drew) ht hb1) (by omega) (by omega) (by omega) (by omega) (by omega) (by omega) (by omega) (by omega)).mono ?_; rintro e w2 ⟨rfl, hb2⟩; have q3 := cell_later hb2 q1; have q4 := cell_later hb2 q2)
      | (go_at_call 38; refine (itoa _ _ h0 (by omega) (by exact (Pow10.step (w := w'.drew) ht hb1).step hb2)).mono ?_; rintro e w3 ⟨rfl, hb3⟩; have q5 := cell_later hb3 q3; have q6 := cell_later hb3 q4))
  go_wp2
  go_ret2
  exact ⟨rfl, below_via (below_via (below_via hb'.drew hb1) hb2) hb3⟩

theorem cutSlash (l : List UInt8) (w : World) (hl : l.length < 4294967281) (hm : MaxL w) :
    Calls Tryd.prog 41 #[.string ⟨l.toArray⟩, .string ⟨#[47]⟩] w fun e w' => e = .returned (.tuple #[.string ⟨(Bur.sw l).toArray⟩, .string ⟨(Bur.sr l).toArray⟩, .bool (Bur.sf l)]) ∧ ∃ n, w' = w.drewN n := cutAt l 47 w hl hm

/-- What readPrefix gives. -/
def rpA (l : List UInt8) : Int := if Bur.okP l = true then Bur.preA l else 0
def rpL (l : List UInt8) : Int := if Bur.okP l = true then Bur.preL l else 0

set_option maxHeartbeats 1000000 in
theorem readPrefix (l : List UInt8) (w : World) (hl : l.length < 4294967281) (hm : MaxL w) :
    Calls Tryd.prog 36 #[.string ⟨l.toArray⟩] w fun e w' => e = .returned (.tuple #[pfx (rpA l) (rpL l), .bool (Bur.okP l)]) ∧ Below w.heap.size w w' := by
  have hwl := Bur.sw_len l
  have hrl := Bur.sr_len l
  have cP := Pf.new w 0 0
  go_enter Tryd.func36, Tryd.ntmps36
  go_wp2_with fail
  refine (cutSlash _ _ hl (hm.alloc _)).mono ?_; rintro e w1 ⟨rfl, n1, rfl⟩
  have hb1 : Below (w.alloc (pcs 0 0)).heap.size (w.alloc (pcs 0 0)) ((w.alloc (pcs 0 0)).drewN n1) := below_drewN (below_self _) n1
  replace cP := cP.step hb1
  replace hm := (hm.alloc _).step hb1
  have hbw := below_via (below_al (below_self w) _) hb1
  clear hb1
  generalize (w.alloc (pcs 0 0)).drewN n1 = W1 at *
  cases h1 : Bur.sf l
  · have ⟨c0, c1, z0, z1, _⟩ := cP
    have E : Hid (Bur.okP l = false) := by show _ = _; simp [Bur.okP, h1]
    go_wp2
    rw [show rpA l = 0 from if_neg (by simp [E.out]), show rpL l = 0 from if_neg (by simp [E.out]), E.out]
    exact bodyPost_ret (v := .tuple #[pfx 0 0, .bool false]) (by simp [results, Tryd.results36, go_sem, c0, c1]) rfl ⟨rfl, (hbw.setCell (by simp) _).setCell (by simp) _⟩
  go_wp2_with fail
  refine (readOctets _ _ (by omega) hm).mono ?_; rintro e w2 ⟨rfl, hb2⟩
  replace cP := cP.step hb2
  replace hbw := below_via hbw hb2
  clear hb2
  have ⟨c0, c1, z0, z1, clt⟩ := cP
  cases h2 : Bur.okO (Bur.sw l)
  · have hv := octV_no h2
    have E : Hid (Bur.okP l = false) := by show _ = _; simp [Bur.okP, h2]
    go_wp2
    rw [show rpA l = 0 from if_neg (by simp [E.out]), show rpL l = 0 from if_neg (by simp [E.out]), E.out]
    exact bodyPost_ret (v := .tuple #[pfx 0 0, .bool false]) (by simp [results, Tryd.results36, go_sem, c0, c1, clt]) rfl ⟨rfl, by repeat (first | exact hbw | refine Below.setCell ?_ (by simp) _ | refine below_al ?_ _)⟩
  have hv := octV_ok h2
  have b0 := Bur.ov_bd (Bur.sw l) 0
  have b1 := Bur.ov_bd (Bur.sw l) 1
  have b2 := Bur.ov_bd (Bur.sw l) 2
  have b3 := Bur.ov_bd (Bur.sw l) 3
  have b4 := Bur.rdV_bd 32 (Bur.sr l) (by decide)
  go_wp2_with fail
  refine (readNum _ 32 _ (by decide) (by decide) (by omega)).mono ?_; rintro e w3 ⟨rfl, rfl⟩
  cases h3 : Bur.rdB 32 (Bur.sr l)
  · have E : Hid (Bur.okP l = false) := by show _ = _; simp [Bur.okP, h3]
    go_wp2
    rw [show rpA l = 0 from if_neg (by simp [E.out]), show rpL l = 0 from if_neg (by simp [E.out]), E.out]
    exact bodyPost_ret (v := .tuple #[pfx 0 0, .bool false]) (by simp [results, Tryd.results36, go_sem, c0, c1, clt]) rfl ⟨rfl, by repeat (first | exact hbw | refine Below.setCell ?_ (by simp) _ | refine below_al ?_ _)⟩
  have E : Hid (Bur.okP l = true) := by show _ = _; simp [Bur.okP, h1, h2, h3]
  go_wp2_with (go_at_call 31; refine (join _ _ _ _ _ b0.1 b0.2 b1.1 b1.2 b2.1 b2.2 b3.1 b3.2).mono ?_; rintro e w4 ⟨rfl, rfl⟩)
  rw [show rpA l = Bur.preA l from if_pos E.out, show rpL l = Bur.preL l from if_pos E.out, E.out]
  exact bodyPost_ret (v := .tuple #[pfx (Bur.preA l) (Bur.preL l), .bool true]) (by simp [results, Tryd.results36, go_sem, c0, c1, clt, Bur.preA, Bur.preL]) rfl ⟨rfl, by repeat (first | exact hbw | refine Below.setCell ?_ (by simp) _ | refine below_al ?_ _)⟩
end Go.Proofs.YtnnjegohoejlbaaDoor
