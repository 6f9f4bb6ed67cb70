/- The walk of the law DeskSerial. -/
import Derived.Test.YtfnkaehpidaanaaGreatDoorCSrLawB
import Derived.Test.YtfnkaehpidaanaaGreatDoorCNC
import Derived.Deep.CutBlock
namespace Go.Proofs.YtfnkaehpidaanaaGreatDoor
open Go.RowKit Vs

set_option maxRecDepth 100000 in
set_option maxHeartbeats 8000000 in
theorem law_serial {T : Td} (V : DFace T) (s : List Stp) (p : Option Addr) (cp : Nat) (w : World) (hsl : s.length ≤ 9223372036854775807) (hq : StAt w p s) (hwho : ∀ x ∈ s, -9223372036854775808 ≤ x.who ∧ x.who ≤ 9223372036854775807) (hzs : ∀ x ∈ s, x.key.size ≤ 1048576) (het : ErrType w) :
    Calls Tryz.prog 4 #[.slice p s.length cp] w fun e w' => e = .returned (.bool true) ∧ Below w.heap.size w w' := by
  go_enter Tryz.func4, Tryz.ntmps4
  go_wp2_with fail
  refine (V.newOk w (by decide) (by decide)).mono ?_
  rintro e w1 ⟨B0, rfl, hT, hb1⟩
  have o0 : Od T (fun _ => False) w w1 B0 (dk0 100000) := ⟨⟨_, hT, fun j hj => ⟨hj.1, hj.2, id⟩⟩, OkD.new (by decide) (by decide), ⟨by decide, by decide⟩, hb1⟩
  clear hT hb1
  have P1 := o0.begin_ V (by rw [sr_b1.2.2]; exact sr_sm1)
  rw [sr_b1.1, sr_b1.2.1, sr_b1.2.2, ev_0] at P1
  go_wp2_with fail
  refine P1.mono ?_
  clear P1 o0
  rintro e w2 ⟨rfl, o1, -⟩
  have P2 := o1.begin_ V (by rw [sr_b2.2.2]; exact sr_sm2)
  rw [sr_b2.1, sr_b2.2.1, sr_b2.2.2, ev_0] at P2
  go_wp2_with fail
  refine P2.mono ?_
  clear P2 o1
  rintro e w3 ⟨rfl, o2, -⟩
  have P3 := o2.put V 1 { data := #[107] } { data := #[49] } (by decide) (by decide) (by show Sm (dcD sr2 1 cK1); rw [sr_p.2]; exact sr_sm3)
  change Calls Tryz.prog 16 _ _ (fun e w' => e = .returned (ev (dcF sr2 1 cK1)) ∧ Od T _ w w' B0 (dcD sr2 1 cK1) ∧ _) at P3
  rw [sr_p.1, sr_p.2, ev_0] at P3
  go_wp2_with fail
  refine P3.mono ?_
  clear P3 o2
  rintro e w4 ⟨rfl, o3, -⟩
  have P4 := o3.get V 2 { data := #[107] } (by decide) (by show Sm (dgD sr3 2 kA); rw [sr_g.2]; exact sr_sm4)
  change Calls Tryz.prog 11 _ _ (fun e w' => e = .returned (.tuple #[.string (dgS sr3 2 kA), ev (dgF sr3 2 kA)]) ∧ Od T _ w w' B0 (dgD sr3 2 kA) ∧ _) at P4
  rw [sr_g.1, sr_g.2, ev_ne (by decide)] at P4
  generalize dgS sr3 2 kA = gs at P4
  go_wp2_with fail
  refine P4.mono ?_
  clear P4 o3
  rintro e w5 ⟨rfl, o4, -⟩
  have P5 := o4.commit V 1 sr_z4 (by rw [sr_c.2.2]; exact sr_sm5)
  rw [sr_c.1, sr_c.2.1, sr_c.2.2, ev_0] at P5
  go_wp2_with fail
  refine P5.mono ?_
  clear P5 o4
  rintro e w6 ⟨rfl, o5, -⟩
  have P6 := o5.commit V 2 sr_z5 (by rw [sr_x.2]; exact sr_sm6)
  rw [sr_x.1, sr_x.2, ev_ne (by decide)] at P6
  generalize cmN sr5 2 = gn at P6
  go_wp2_with fail
  refine P6.mono ?_
  clear P6 o5
  rintro e w7 ⟨rfl, o6, -⟩
  have P7 := error_hit 4 4 w7 (etStep het o6.bw)
  go_wp2_with fail
  refine P7.mono ?_
  clear P7
  rintro e w8 ⟨rfl, hb8⟩
  have bw8 := below_via o6.bw hb8
  have P8 := error_hit 6 6 w8 (etStep het bw8)
  clear o6 hb8
  go_wp2_with fail
  refine P8.mono ?_
  clear P8
  rintro e w9 ⟨rfl, hb9⟩
  have bw9 := below_via bw8 hb9
  clear bw8 hb9
  go_wp2_with fail
  refine (V.newOk w9 (by decide) (by decide)).mono ?_
  rintro e w10 ⟨B, rfl, hT, hb10⟩
  have o0 : Od T (fun _ => False) w w10 B (dk0 100000) := ⟨⟨_, hT, fun j hj => ⟨by have := bw9.size; omega, hj.2, id⟩⟩, OkD.new (by decide) (by decide), ⟨by decide, by decide⟩, below_via bw9 hb10⟩
  have sr0 : Sr T (fun _ => False) (fun _ => False) w w10 B (dk0 100000) (.slice none 0 0) (.slice none 0 0) [] [] := ⟨o0, fun j h => h.elim, OwnE.nil _ _ _ _, OwnE.nil _ _ _ _, fun j h => by cases h⟩
  clear hT hb10 bw9 o0
  go_upto_block 0 with fail
  go_cut [18, 19, 20, 21, 22, 23, 24, 25, 26, 27, 28, 29, 30, 31, 32, 33, 34, 35] from 122 to 276 (fun _ v2 _ _ _ _ _ _ _ _ _ _ _ _ _ _ _ _ wy => ∃ (k : Nat) (d : Dk) (v1 : Value) (e1 e2 : List Dq) (K X : Nat → Prop), k ≤ 60 ∧ Sd k d (e1.map (·.x)) (e2.map (·.x)) ∧ Sr T K X w wy B d v1 v2 e1 e2)
  case rest =>
    obtain ⟨k, d, v1, e1, e2, K, X, hk, sd, sr⟩ := hcut
    refine ‹∀ (a : Act) (w : World), Code.wp _ _ _ a w → _› _ _ ?_
    exact sr_alone V sd hk rfl sr
  case first =>
  go_wp2_with fail
  go_loopw [18, 19, 20] (fun v1 v2 i wr => ∃ (k : Nat) (d : Dk) (e1 e2 : List Dq) (K X : Nat → Prop), k ≤ s.length ∧ k ≤ 60 ∧ i = .int .i64 k ∧ Sd k d (e1.map (·.x)) (e2.map (·.x)) ∧ Spz d ∧ Sr T K X w wr B d v1 v2 e1 e2) (fun _ _ i _ => s.length - (intOf i).toNat)
  case atStart => exact ⟨0, _, [], [], _, _, by omega, by omega, rfl, Sd.new, Spz.new _, sr0⟩
  case round =>
    clear sr0
    obtain ⟨k, d, e1, e2, K, X, hk, hk60, rfl, sd, hz, sr⟩ := hrel
    obtain ⟨p1, c1, rfl, h1c, h1m, -⟩ := lw_form sr.r1.row
    obtain ⟨p2, c2, rfl, h2c, h2m, -⟩ := lw_form sr.r2.row
    by_cases hlt : k < s.length ∧ k < 60
    · obtain ⟨hlt, hlt60⟩ := hlt
      have hlt' : (k : Int) < (s.length : Int) := by omega
      have hlt60' : (k : Int) < 60 := by omega
      obtain ⟨b, off, rfl, hbl, hc⟩ := (hq.step sr.od.bw) (by omega)
      obtain ⟨x, hx⟩ : ∃ x, s[k]? = some x := ⟨s[k], List.getElem?_eq_getElem hlt⟩
      obtain ⟨d0, d1, d2, d3, d4, d5, z1, z2, z3⟩ := hc k x hx
      have hxm := List.mem_of_getElem? hx
      obtain ⟨wh0, wh1⟩ := hwho x hxm
      have hzx := hzs x hxm
      have hb0 := below_al (below_self wr) (.cells #[.int .i64 x.what, .int .i64 x.who, .string x.key, .string x.hi, .string x.val, .int .i64 x.n] 33)
      have sr1 := sr.kn V hb0
      have sb := Sb.new wr 33 x
      have sw : (wr.alloc (.cells #[.int .i64 x.what, .int .i64 x.who, .string x.key, .string x.hi, .string x.val, .int .i64 x.n] 33)).cell? ⟨wr.heap.size, 1, none⟩ = some (.int .i64 x.who) := by simp
      have hKs : Kn K wr (wr.alloc (.cells #[.int .i64 x.what, .int .i64 x.who, .string x.key, .string x.hi, .string x.val, .int .i64 x.n] 33)) wr.heap.size := .inr ⟨Nat.le_refl _, by simp⟩
      have hel : e1.length ≤ 8 := by have h1 := sd.len; have h2 := sd.ok.few; rw [List.length_map] at h1; omega
      have hel2 : e2.length ≤ 60 := by have h1 := sd.nv; rw [List.length_map] at h1; omega
      have c0 := sb.c0
      clear hc hx hb0 sr
      by_cases w0 : x.what = 0
      · have e0 : (x.what == 0) = true := by simp [w0]
        have hsm : Sm (bgD d) := by
          obtain ⟨g1, g2, _, _⟩ := wt_bg d
          have := sd.wl
          have := sd.ids
          exact ⟨by omega, by omega⟩
        have P1 := sr1.od.begin_ V hsm
        clear w0
        by_cases hf : bgF d = 0
        · have sd2 := sd.bg hf
          rw [hf, ev_0] at P1
          clear hf
          go_wp2_with fail
          refine P1.mono ?_
          clear P1
          rintro e w2 ⟨rfl, od2, hb2⟩
          have sr2 := sr1.kw od2 hb2
          have hb3 := below_al (below_self w2) (.cells #[.int .i64 (bgN d), .int .i64 0, .slice none 0 0, .slice none 0 0, .slice none 0 0] 80)
          have sr3 := sr2.kn V hb3
          have hbw := sr3.od.bw.size
          clear sr1 sb sw c0 od2 hb2 sr2
          go_wp2_with (at_builtin; refine wpList_append_oneAt 76 80 5 88 _ Tryz.underlying76 infoDn rfl (by decide) (by decide) rfl _ _ rfl w.heap.size _ e1.length (e1.flatMap encD) rfl sr3.r1.row hbw w2.heap.size (encD (dq0 (bgN d))) rfl rfl (five_new _ _ _ _ _ _ _ _ rfl) (dq0_one _) (by omega) ?_; intro v4 w4 own4 hg4 hat4)
          have sr4 := sr3.push1 V own4 hg4 hat4 (dq0_ok X _ (bgN d))
          exact ⟨⟨k + 1, bgD d, e1 ++ [dq0 (bgN d)], e2, _, _, by omega, by omega, by go_num, by rw [List.map_append]; exact sd2, hz.bg, sr4⟩, by simp [intOf]; omega⟩
        · have hd : bgD d = d := by rw [bgD, if_neg hf]
          rw [ev_ne hf, hd] at P1
          clear hf hd
          go_wp2_with fail
          refine P1.mono ?_
          clear P1
          rintro e w2 ⟨rfl, od2, hb2⟩
          have sr2 := sr1.kw od2 hb2
          go_wp2
          exact ⟨⟨k + 1, d, e1, e2, _, _, by omega, by omega, by go_num, sd.mono (by omega), hz, sr2⟩, by simp [intOf]; omega⟩
      · have e0 : (x.what == 0) = false := by simp [w0]
        by_cases hl0 : e1.length = 0
        · have hnil : e1 = [] := List.eq_nil_of_length_eq_zero hl0
          subst hnil
          clear hl0
          go_wp2
          exact ⟨⟨k + 1, d, [], e2, _, _, by omega, by omega, by go_num, sd.mono (by omega), hz, sr1⟩, by simp [intOf]; omega⟩
        · have hl0' : ((e1.length : Int) == 0) = false := beq_eq_false_iff_ne.2 (by omega)
          have PP := fun W => srPick x.who e1.length W wh0 wh1 (by omega) (by omega)
          go_upto_region 28 with (go_at_call 35; refine (PP _).mono ?_; rintro e wz ⟨⟨j, rfl, hj⟩, rfl⟩)
          clear PP
          have hj' : (j : Int) < (e1.length : Int) := by omega
          obtain ⟨y, hy⟩ : ∃ y, e1[j]? = some y := ⟨e1[j], List.getElem?_eq_getElem hj⟩
          obtain ⟨g, rfl, hgl, hKg, b0, b1, b2, b3, b4⟩ := sr1.r1.at hy
          go_cut [25] from 159 to 163 (fun v25 wy => v25 = .int .i64 y.x.id ∧ wy = wr.alloc (.cells #[.int .i64 x.what, .int .i64 x.who, .string x.key, .string x.hi, .string x.val, .int .i64 x.n] 33))
          case rest =>
            obtain ⟨rfl, rfl⟩ := hcut
            refine ‹∀ (a : Act) (w : World), Code.wp _ _ _ a w → _› _ _ ?_
            refine sr_step V hlt60 hj hel hel2 h1c h1m sd hz hy hzx z1 z2 z3 sr1 sb sw hKs ?_
            intro ex d' v1' v2' e1' e2' K' X' w'
            intros
            rename_i hex sd' hz' sr'
            rcases hex with rfl | rfl
            · go_wp2
              exact ⟨⟨k + 1, d', e1', e2', K', X', by omega, by omega, by go_num, sd', hz', sr'⟩, by simp [intOf]; omega⟩
            · go_wp2
              exact ⟨⟨k + 1, d', e1', e2', K', X', by omega, by omega, by go_num, sd', hz', sr'⟩, by simp [intOf]; omega⟩
          case first =>
            go_wp2
            go_meet
            case rel => exact ⟨rfl, rfl⟩
    · by_cases h1 : k < s.length
      · have g1 : decide ((k : Int) < (s.length : Int)) = true := by simp; omega
        have g2 : decide ((k : Int) < 60) = false := by simp; omega
        go_wp2_with fail
        go_meet
        case rel => exact ⟨k, d, _, e1, e2, K, X, hk60, sd, sr⟩
      · have g1 : decide ((k : Int) < (s.length : Int)) = false := by simp; omega
        go_wp2_with fail
        go_meet
        case rel => exact ⟨k, d, _, e1, e2, K, X, hk60, sd, sr⟩
end Go.Proofs.YtfnkaehpidaanaaGreatDoor
