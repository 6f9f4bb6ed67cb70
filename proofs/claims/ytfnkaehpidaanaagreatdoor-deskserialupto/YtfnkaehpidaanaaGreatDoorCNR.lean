/- The contract of a transaction's act (the law DeskSerial's). -/
import Derived.Test.YtfnkaehpidaanaaGreatDoorCMB
import Derived.Test.YtfnkaehpidaanaaGreatDoorCNS
import Derived.Deep.CutBlock
import Derived.Test.YtfnkaehpidaanaaGreatDoorCNF
import Derived.Test.YtfnkaehpidaanaaGreatDoorCML
import Derived.Test.YtfnkaehpidaanaaGreatDoorCRowK
import Derived.Test.YtfnkaehpidaanaaGreatDoorCMM
namespace Go.Proofs.YtfnkaehpidaanaaGreatDoor
open Go.RowKit Vs

abbrev stM (x : Stp) : Value := .agg #[.int .i64 x.what, .int .i64 x.who, .string x.key, .string x.hi, .string x.val, .int .i64 x.n]
theorem eqT_is (v : ByteArray) : ({ data := #[61] } : ByteArray) ++ v = eqT v := by
  apply ByteArray.ext
  rw [eqT, ByteArray.data_append]
  simp [mkB]
theorem seeO_size {vs : List Ver} {top s : Int} (hT : OkT vs top) {own : List Chg} (ho : chF own = 0) {k v : ByteArray} (h : seeO vs s own k = some v) : v.size ≤ 12 := by
  unfold seeO at h
  cases e : ownC own k with
  | none =>
    rw [e] at h
    obtain ⟨x, h1, h2, h3⟩ := vget_some.1 h
    have := (hT.each x (see_some h1).1).1.2.2.1
    rw [h3] at this; exact this
  | some c =>
    rw [e] at h
    simp only at h
    split at h
    · cases h
    · have := (chF_ok ho).2 c (ownC_some e).1
      cases h
      exact (chW_ok this).2.2.1
theorem dgS_size {d : Dk} (h : OkD d) (i : Int) (k : ByteArray) : (dgS d i k).size ≤ 12 := by
  unfold dgS
  cases e : opI d i with
  | none => exact Nat.zero_le _
  | some o =>
    simp only
    split
    · split
      · exact Nat.zero_le _
      · cases e2 : seeO d.vs o.sees o.own k with
        | none => exact Nat.zero_le _
        | some v => exact seeO_size h.tb (h.op o (opI_some e).1).own e2
    · exact Nat.zero_le _
/-- What act leaves. -/
def Acted (T : Td) (K : Nat → Prop) (w wr w' : World) (B : Nat) (d : Dk) (q : Option Addr) (cq : Nat) (l : List Pr) : Prop := ∃ K' : Nat → Prop, l.length ≤ cq ∧ (∀ j, j < wr.heap.size → K j → K' j) ∧ (∀ j, K' j → (K j ∧ j < wr.heap.size) ∨ (wr.heap.size ≤ j ∧ j < w'.heap.size)) ∧ PrIn (fun j => wr.heap.size ≤ j ∧ K' j) w' q l ∧ Od T K' w w' B d ∧ But (fun j => ¬ K j) wr w'
theorem Acted.none_ {T : Td} {K : Nat → Prop} {w wr w1 w' : World} {B : Nat} {d : Dk} (hb1 : Below wr.heap.size wr w1) (od : Od T (Kw (Kn K wr w1) w1) w w' B d) (hb : But (fun j => ¬ Kn K wr w1 j) w1 w') : Acted T K w wr w' B d none 0 [] := by
  have s1 := hb1.size
  have s2 := hb.size
  refine ⟨Kw (Kn K wr w1) w1, Nat.le_refl _, fun j hj hk => ⟨.inl hk, by omega⟩, fun j hj => ?_, fun h => by simp at h, od, (But.below hb1 : But (fun j => ¬ K j) wr w1).then hb (fun j _ hj hk => hj (.inl hk))⟩
  rcases hj.1 with g | g
  · by_cases h : j < wr.heap.size
    · exact .inl ⟨g, h⟩
    · exact .inr ⟨by omega, by have := hj.2; omega⟩
  · exact .inr ⟨g.1, by have := hj.2; omega⟩
theorem Acted.some_ {T : Td} {K K' : Nat → Prop} {w wr w1 w' : World} {B : Nat} {d : Dk} {q : Option Addr} {cq : Nat} {l : List Pr} (hb1 : Below wr.heap.size wr w1) (hl : l.length ≤ cq) (h1 : ∀ j, j < w1.heap.size → Kn K wr w1 j → K' j) (h2 : ∀ j, K' j → (Kn K wr w1 j ∧ j < w1.heap.size) ∨ (w1.heap.size ≤ j ∧ j < w'.heap.size)) (hp : PrIn (fun j => w1.heap.size ≤ j ∧ K' j) w' q l) (od : Od T K' w w' B d) (hb : But (fun j => ¬ Kn K wr w1 j) w1 w') : Acted T K w wr w' B d q cq l := by
  have s1 := hb1.size
  have s2 := hb.size
  refine ⟨K', hl, fun j hj hk => h1 j (by omega) (.inl hk), fun j hj => ?_, hp.mono (fun j _ hj => ⟨by have := hj.1; omega, hj.2⟩), od, (But.below hb1 : But (fun j => ¬ K j) wr w1).then hb (fun j _ hj hk => hj (.inl hk))⟩
  rcases h2 j hj with g | g
  · rcases g.1 with g1 | g1
    · by_cases h : j < wr.heap.size
      · exact .inl ⟨g1, h⟩
      · exact .inr ⟨by omega, by have := g.2; omega⟩
    · exact .inr ⟨g1.1, by have := g.2; omega⟩
  · exact .inr ⟨by omega, g.2⟩
set_option maxHeartbeats 4000000 in
set_option maxRecDepth 100000 in
theorem srAct {T : Td} (V : DFace T) {K : Nat → Prop} {w wr : World} {B : Nat} {d : Dk} {i : Int} {o : Ox} (x : Stp) (h : Od T K w wr B d) (hi : opI d i = some o) (hx : 1 ≤ x.what ∧ x.what ≤ 5) (zk : x.key.size ≤ maxLen) (zv : x.val.size ≤ maxLen) (hs : Sm (opSet d (nextO o x))) :
    Calls Tryz.prog 36 #[.pointer (some ⟨B, 0, none⟩), .int .i64 i, stM x] wr fun e w' => ∃ (q : Option Addr) (cq : Nat), e = .returned (.tuple #[.string (tellO d.vs o x).1, .slice q (tellO d.vs o x).2.length cq]) ∧ Acted T K w wr w' B (opSet d (nextO o x)) q cq (tellO d.vs o x).2 := by
  have hb1 := below_al (below_self wr) (.cells #[.int .i64 x.what, .int .i64 x.who, .string x.key, .string x.hi, .string x.val, .int .i64 x.n] 33)
  have sb := Sb.new wr 33 x
  have od1 := h.step V hb1
  have hsb : ∀ {w2 : World}, But (fun j => ¬ Kn K wr (wr.alloc (.cells #[.int .i64 x.what, .int .i64 x.who, .string x.key, .string x.hi, .string x.val, .int .i64 x.n] 33)) j) (wr.alloc (.cells #[.int .i64 x.what, .int .i64 x.who, .string x.key, .string x.hi, .string x.val, .int .i64 x.n] 33)) w2 → Sb w2 wr.heap.size x := fun hb => sb.but hb (fun hn => hn (.inr ⟨Nat.le_refl _, by simp⟩))
  have c0 := sb.c0
  have c2 := sb.c2
  have c3 := sb.c3
  have c4 := sb.c4
  by_cases w2 : x.what = 2
  · obtain ⟨a1, a2⟩ := range_is h.ok hi w2
    have P := od1.range V i x.key x.hi (by rw [a1]; exact hs)
    rw [a1] at P
    have e2 : (x.what == 2) = true := by simp [w2]
    rcases a2 with ⟨f0, t0⟩ | ⟨f0, t0⟩
    · rw [t0]
      rw [f0, ev_0] at P
      clear a1 f0 t0 w2 hs
      go_enter Tryz.func36, Tryz.ntmps36
      go_wp2_with (go_at_call 13; refine P.mono ?_; rintro e w2 ⟨q, cq, K', rfl, g1, g2, g3, g4, g5, g6⟩)
      go_ret2
      exact ⟨q, cq, rfl, Acted.some_ hb1 g1 g2 g3 g4 g5 g6⟩
    · rw [t0]
      rw [ev_ne f0] at P
      clear a1 f0 t0 w2 hs
      go_enter Tryz.func36, Tryz.ntmps36
      go_wp2_with (go_at_call 13; refine P.mono ?_; rintro e w2 ⟨q, cq, K', rfl, g1, g2, g3, g4, g5, g6⟩)
      go_ret2
      exact ⟨none, 0, rfl, Acted.some_ hb1 (Nat.le_refl _) g2 g3 (fun hp => by simp at hp) g5 g6⟩
  · have e2 : (x.what == 2) = false := by simp [w2]
    by_cases w1 : x.what = 1
    · have e1 : (x.what == 1) = true := by simp [w1]
      obtain ⟨a1, a2⟩ := get_is h.ok hi w1
      have P := od1.get V i x.key zk (by rw [a1]; exact hs)
      rw [a1] at P
      rcases a2 with ⟨f0, t0⟩ | ⟨f0, t0⟩
      · have hz := dgS_size h.ok i x.key
        rw [t0, ← eqT_is]
        rw [f0, ev_0] at P
        have hz2 : (dgS d i x.key).size + 1 < 9223372036854775807 := by omega
        generalize dgS d i x.key = S at P hz hz2 ⊢
        clear a1 f0 t0 w2 w1 hs
        go_enter Tryz.func36, Tryz.ntmps36
        go_wp2_with (go_at_call 11; refine P.mono ?_; rintro e w2 ⟨rfl, g1, g2⟩; have q0 := (hsb g2).c0)
        go_ret2
        exact ⟨none, 0, rfl, Acted.none_ hb1 g1 g2⟩
      · rw [t0]
        rw [ev_ne f0] at P
        clear a1 f0 t0 w2 w1 hs
        go_enter Tryz.func36, Tryz.ntmps36
        go_wp2_with (go_at_call 11; refine P.mono ?_; rintro e w2 ⟨rfl, g1, g2⟩; have q0 := (hsb g2).c0)
        go_ret2
        exact ⟨none, 0, rfl, Acted.none_ hb1 g1 g2⟩
    · have e1 : (x.what == 1) = false := by simp [w1]
      obtain ⟨a1, a2⟩ := chg_is h.ok hi (x := x) (by omega)
      by_cases w5 : x.what = 5
      · have e3 : (x.what == 3) = false := by simp [w5]
        have e4 : (x.what == 4) = false := by simp [w5]
        have ec : cOf x = ⟨x.key, ByteArray.empty, true⟩ := by unfold cOf; rw [if_neg (by omega)]
        rw [ec] at a1 a2
        have P := od1.drop V i x.key zk (by rw [a1]; exact hs)
        rw [a1] at P
        rcases a2 with ⟨f0, t0⟩ | ⟨f0, t0⟩
        · rw [t0]
          rw [f0, ev_0] at P
          clear a1 f0 t0 w2 w1 w5 hs ec
          go_enter Tryz.func36, Tryz.ntmps36
          go_wp2_with (go_at_call 17; refine P.mono ?_; rintro e w2 ⟨rfl, g1, g2⟩)
          go_ret2
          exact ⟨none, 0, rfl, Acted.none_ hb1 g1 g2⟩
        · rw [t0]
          rw [ev_ne f0] at P
          clear a1 f0 t0 w2 w1 w5 hs ec
          go_enter Tryz.func36, Tryz.ntmps36
          go_wp2_with (go_at_call 17; refine P.mono ?_; rintro e w2 ⟨rfl, g1, g2⟩)
          go_ret2
          exact ⟨none, 0, rfl, Acted.none_ hb1 g1 g2⟩
      · have ec : cOf x = ⟨x.key, x.val, false⟩ := by unfold cOf; rw [if_pos (by omega)]
        rw [ec] at a1 a2
        have P := od1.put V i x.key x.val zk zv (by rw [a1]; exact hs)
        rw [a1] at P
        by_cases w3 : x.what = 3
        · have e3 : (x.what == 3) = true := by simp [w3]
          rcases a2 with ⟨f0, t0⟩ | ⟨f0, t0⟩
          · rw [t0]
            rw [f0, ev_0] at P
            clear a1 f0 t0 w2 w1 w5 hs ec w3
            go_enter Tryz.func36, Tryz.ntmps36
            go_wp2_with (go_at_call 16; refine P.mono ?_; rintro e w2 ⟨rfl, g1, g2⟩)
            go_ret2
            exact ⟨none, 0, rfl, Acted.none_ hb1 g1 g2⟩
          · rw [t0]
            rw [ev_ne f0] at P
            clear a1 f0 t0 w2 w1 w5 hs ec w3
            go_enter Tryz.func36, Tryz.ntmps36
            go_wp2_with (go_at_call 16; refine P.mono ?_; rintro e w2 ⟨rfl, g1, g2⟩)
            go_ret2
            exact ⟨none, 0, rfl, Acted.none_ hb1 g1 g2⟩
        · have e3 : (x.what == 3) = false := by simp [w3]
          have e4 : (x.what == 4) = true := by simp; omega
          rcases a2 with ⟨f0, t0⟩ | ⟨f0, t0⟩
          · rw [t0]
            rw [f0, ev_0] at P
            clear a1 f0 t0 w2 w1 w5 hs ec w3
            go_enter Tryz.func36, Tryz.ntmps36
            go_wp2_with (go_at_call 16; refine P.mono ?_; rintro e w2 ⟨rfl, g1, g2⟩)
            go_ret2
            exact ⟨none, 0, rfl, Acted.none_ hb1 g1 g2⟩
          · rw [t0]
            rw [ev_ne f0] at P
            clear a1 f0 t0 w2 w1 w5 hs ec w3
            go_enter Tryz.func36, Tryz.ntmps36
            go_wp2_with (go_at_call 16; refine P.mono ?_; rintro e w2 ⟨rfl, g1, g2⟩)
            go_ret2
            exact ⟨none, 0, rfl, Acted.none_ hb1 g1 g2⟩
end Go.Proofs.YtfnkaehpidaanaaGreatDoor

/- The law DeskSerial's own rows: what transactions did and were told. -/
namespace Go.Proofs.YtfnkaehpidaanaaGreatDoor
open Go.RowKit Vs

/-- A transaction that was done, as it lies: its three rows. -/
structure Dq where
  x : Dn
  a : Value
  b : Value
  c : Value
def encD (e : Dq) : List Value := [.int .i64 e.x.id, .int .i64 e.x.num, e.a, e.b, e.c]
def encS (x : Stp) : List Value := [.int .i64 x.what, .int .i64 x.who, .string x.key, .string x.hi, .string x.val, .int .i64 x.n]
theorem infoDn : (Tryz.prog.info? 80).map (fun i => (i.zero, i.size, i.bytes)) = some (some (.agg #[.int .i64 0, .int .i64 0, .slice none 0 0, .slice none 0 0, .slice none 0 0]), 5, 88) := by kernel_rfl
theorem infoSp : (Tryz.prog.info? 33).map (fun i => (i.zero, i.size, i.bytes)) = some (some (.agg #[.int .i64 0, .int .i64 0, .string ByteArray.empty, .string ByteArray.empty, .string ByteArray.empty, .int .i64 0]), 6, 72) := by kernel_rfl
theorem infoTx : (Tryz.prog.info? 9).map (fun i => (i.zero, i.size, i.bytes)) = some (some (.string ByteArray.empty), 1, 16) := by kernel_rfl
/-- A row that is written no more, in a block of X. -/
def Fz (X : Nat → Prop) (w : World) (e size : Nat) (v : Value) (n : Nat) (cs : List Value) : Prop := w.ownsRow 0 e size v n cs ∧ ∀ j, v.ownBlock = some j → X j
theorem Fz.but {E X X' : Nat → Prop} {w w' : World} {e size n : Nat} {v : Value} {cs : List Value} (h : Fz X w e size v n cs) (hb : But E w w') (hE : ∀ j, X j → ¬ E j) (hX : ∀ j, j < w.heap.size → X j → X' j) : Fz X' w' e size v n cs :=
  ⟨op_but h.1 hb (fun j hj => hE j (h.2 j hj)), fun j hj => hX j (op_lt h.1 hj).2 (h.2 j hj)⟩
theorem Fz.nil (X : Nat → Prop) (w : World) (e size : Nat) : Fz X w e size (.slice none 0 0) 0 [] := ⟨World.ownsRow_nil _ _ _ _, fun j h => by cases h⟩
/-- Lists of pairs in a row that is written no more. -/
def FzP (X : Nat → Prop) (w : World) (v : Value) (ls : List (List Pr)) : Prop := ∃ vs, Fz X w 42 1 v ls.length vs ∧ ∀ (i : Nat) (l : List Pr), ls[i]? = some l → ∃ q c, vs[i]? = some (.slice q l.length c) ∧ l.length ≤ c ∧ PrIn X w q l
theorem FzP.but {E X X' : Nat → Prop} {w w' : World} {v : Value} {ls : List (List Pr)} (h : FzP X w v ls) (hb : But E w w') (hE : ∀ j, X j → ¬ E j) (hX : ∀ j, j < w.heap.size → X j → X' j) : FzP X' w' v ls := by
  obtain ⟨vs, h1, h2⟩ := h
  refine ⟨vs, h1.but hb hE hX, fun i l hl => ?_⟩
  obtain ⟨q, c, h3, h4, h5⟩ := h2 i l hl
  refine ⟨q, c, h3, h4, fun hp => ?_⟩
  obtain ⟨b, off, e1, e2, e3, e4⟩ := h5 hp
  obtain ⟨b', off', f1, f2, _, f4⟩ := (h5.but hb (fun j _ hj => hE j hj)) hp
  cases e1.symm.trans f1
  exact ⟨b, off, e1, f2, hX b e2 e3, f4⟩
/-- What the steps ask of their texts. -/
def SzS (l : List Stp) : Prop := ∀ x ∈ l, x.key.size ≤ 1048576 ∧ x.hi.size ≤ maxLen ∧ x.val.size ≤ maxLen
structure DqOk (X : Nat → Prop) (w : World) (e : Dq) : Prop where
  a : Fz X w 33 6 e.a e.x.st.length (e.x.st.flatMap encS)
  b : Fz X w 9 1 e.b e.x.td.length (e.x.td.map Value.string)
  c : FzP X w e.c e.x.pr
  s : SzS e.x.st
  n : e.x.st.length ≤ 1000
theorem DqOk.but {E X X' : Nat → Prop} {w w' : World} {e : Dq} (h : DqOk X w e) (hb : But E w w') (hE : ∀ j, X j → ¬ E j) (hX : ∀ j, j < w.heap.size → X j → X' j) : DqOk X' w' e :=
  ⟨h.a.but hb hE hX, h.b.but hb hE hX, h.c.but hb hE hX, h.s, h.n⟩
/-- A row of them. -/
structure OwnE (n0 : Nat) (K X : Nat → Prop) (w : World) (v : Value) (es : List Dq) : Prop where
  row : w.ownsRow n0 80 5 v es.length (es.flatMap encD)
  blk : ∀ j, v.ownBlock = some j → K j ∧ ¬ X j
  each : ∀ e ∈ es, DqOk X w e
theorem OwnE.nil (n0 : Nat) (K X : Nat → Prop) (w : World) : OwnE n0 K X w (.slice none 0 0) [] := ⟨World.ownsRow_nil _ _ _ _, (fun j h => by cases h), fun e h => by simp at h⟩
theorem OwnE.but {n0 : Nat} {E K K' X X' : Nat → Prop} {w w' : World} {v : Value} {es : List Dq} (h : OwnE n0 K X w v es) (hb : But E w w') (hv : ∀ j, v.ownBlock = some j → ¬ E j) (hE : ∀ j, X j → ¬ E j) (hX : ∀ j, j < w.heap.size → X j → X' j) (hX2 : ∀ j, j < w.heap.size → X' j → X j) (hK : ∀ j, j < w.heap.size → K j → K' j) : OwnE n0 K' X' w' v es :=
  ⟨op_but h.row hb hv, fun j hj => ⟨hK j (op_lt h.row hj).2 (h.blk j hj).1, fun g => (h.blk j hj).2 (hX2 j (op_lt h.row hj).2 g)⟩, fun e he => (h.each e he).but hb hE hX⟩
/-- A desk, and the law's two rows. -/
structure Sr (T : Td) (K X : Nat → Prop) (w wr : World) (B : Nat) (d : Dk) (v1 v2 : Value) (e1 e2 : List Dq) : Prop where
  od : Od T K w wr B d
  xk : ∀ j, X j → K j ∧ j < wr.heap.size
  r1 : OwnE w.heap.size K X wr v1 e1
  r2 : OwnE w.heap.size K X wr v2 e2
  ne : ∀ j, v1.ownBlock = some j → v2.ownBlock ≠ some j
theorem Sr.kn {T : Td} (V : DFace T) {K X : Nat → Prop} {w wr w' : World} {B : Nat} {d : Dk} {v1 v2 : Value} {e1 e2 : List Dq} (h : Sr T K X w wr B d v1 v2 e1 e2) (hb : Below wr.heap.size wr w') : Sr T (Kn K wr w') X w w' B d v1 v2 e1 e2 :=
  ⟨h.od.step V hb, fun j hj => ⟨.inl (h.xk j hj).1, Nat.lt_of_lt_of_le (h.xk j hj).2 hb.size⟩, h.r1.but (E := fun _ => False) (.below hb) (fun _ _ => id) (fun _ _ => id) (fun _ _ g => g) (fun _ _ g => g) (fun _ _ g => .inl g), h.r2.but (E := fun _ => False) (.below hb) (fun _ _ => id) (fun _ _ => id) (fun _ _ g => g) (fun _ _ g => g) (fun _ _ g => .inl g), h.ne⟩
theorem Sr.kw {T : Td} {K X : Nat → Prop} {w wr w' : World} {B : Nat} {d d' : Dk} {v1 v2 : Value} {e1 e2 : List Dq} (h : Sr T K X w wr B d v1 v2 e1 e2) (o : Od T (Kw K wr) w w' B d') (hb : But (fun j => ¬ K j) wr w') : Sr T (Kw K wr) X w w' B d' v1 v2 e1 e2 :=
  ⟨o, fun j hj => ⟨h.xk j hj, Nat.lt_of_lt_of_le (h.xk j hj).2 hb.size⟩, h.r1.but hb (fun j hj g => g (h.r1.blk j hj).1) (fun j hj g => g (h.xk j hj).1) (fun _ _ g => g) (fun _ _ g => g) (fun _ hj g => ⟨g, hj⟩), h.r2.but hb (fun j hj g => g (h.r2.blk j hj).1) (fun j hj g => g (h.xk j hj).1) (fun _ _ g => g) (fun _ _ g => g) (fun _ hj g => ⟨g, hj⟩), h.ne⟩
/-- Something was done to a block of the law's that is none of these. -/
theorem Sr.mine {T : Td} (V : DFace T) {E K X : Nat → Prop} {w wr w' : World} {B : Nat} {d : Dk} {v1 v2 : Value} {e1 e2 : List Dq} (h : Sr T K X w wr B d v1 v2 e1 e2) (hb : But E wr w') (hE : ∀ j, E j → K j ∧ w.heap.size ≤ j ∧ ¬ X j ∧ v1.ownBlock ≠ some j ∧ v2.ownBlock ≠ some j) : Sr T (Kn K wr w') X w w' B d v1 v2 e1 e2 :=
  ⟨h.od.mine V hb (fun j hj => (hE j hj).1) (fun j hj => (hE j hj).2.1), fun j hj => ⟨.inl (h.xk j hj).1, Nat.lt_of_lt_of_le (h.xk j hj).2 hb.size⟩, h.r1.but hb (fun j hj g => (hE j g).2.2.2.1 hj) (fun j hj g => (hE j g).2.2.1 hj) (fun _ _ g => g) (fun _ _ g => g) (fun _ _ g => .inl g), h.r2.but hb (fun j hj g => (hE j g).2.2.2.2 hj) (fun j hj g => (hE j g).2.2.1 hj) (fun _ _ g => g) (fun _ _ g => g) (fun _ _ g => .inl g), h.ne⟩
/-- act: the pairs that it tells of are written no more. -/
theorem Sr.act {T : Td} {K X : Nat → Prop} {w wr w' : World} {B : Nat} {d d' : Dk} {v1 v2 : Value} {e1 e2 : List Dq} {q : Option Addr} {cq : Nat} {l : List Pr} (h : Sr T K X w wr B d v1 v2 e1 e2) (a : Acted T K w wr w' B d' q cq l) : ∃ K' X' : Nat → Prop, Sr T K' X' w w' B d' v1 v2 e1 e2 ∧ l.length ≤ cq ∧ PrIn X' w' q l ∧ (∀ j, X j → X' j) ∧ (∀ j, j < wr.heap.size → X' j → X j) ∧ (∀ j, j < wr.heap.size → K j → K' j) ∧ But (fun j => ¬ K j) wr w' := by
  obtain ⟨K', g1, g2, g3, g4, g5, hb⟩ := a
  have hs := hb.size
  have hX : ∀ j, j < wr.heap.size → (X j ∨ (wr.heap.size ≤ j ∧ K' j)) → X j := fun j hj g => g.elim id (fun g => by have := g.1; omega)
  refine ⟨K', fun j => X j ∨ (wr.heap.size ≤ j ∧ K' j), ⟨g5, fun j hj => ?_, h.r1.but hb (fun j hj g => g (h.r1.blk j hj).1) (fun j hj g => g (h.xk j hj).1) (fun _ _ g => .inl g) hX g2, h.r2.but hb (fun j hj g => g (h.r2.blk j hj).1) (fun j hj g => g (h.xk j hj).1) (fun _ _ g => .inl g) hX g2, h.ne⟩, g1, g4.mono (fun j _ hj => .inr hj), fun j hj => .inl hj, hX, g2, hb⟩
  rcases hj with hj | hj
  · have := h.xk j hj
    exact ⟨g2 j this.2 this.1, by omega⟩
  · refine ⟨hj.2, ?_⟩
    rcases g3 j hj.2 with g | g
    · have := g.2; omega
    · exact g.2
theorem sr_grown {w w' : World} {v : Value} (hg : w.grownBy w' v.ownBlock) : But (fun j => v.ownBlock = some j) w w' := ⟨hg.os, hg.tape, hg.output, hg.size, fun k hk hF => hg.block k hk (fun e => hF e.symm)⟩
theorem own_zero {w : World} {B e size n : Nat} {v : Value} {xs : List Value} (h : w.ownsRow B e size v n xs) : w.ownsRow 0 e size v n xs := ownMono (Nat.zero_le _) h
/-- One more is open. -/
theorem Sr.push1 {T : Td} (V : DFace T) {K X : Nat → Prop} {w wr w' : World} {B : Nat} {d : Dk} {v1 v2 v' : Value} {e1 e2 : List Dq} {e : Dq} (h : Sr T K X w wr B d v1 v2 e1 e2) (hrow : w'.ownsRow w.heap.size 80 5 v' (e1.length + 1) (e1.flatMap encD ++ encD e)) (hg : wr.grownBy w' v1.ownBlock) (hat : v'.ownBlock = v1.ownBlock ∨ v'.ownBlock = some wr.heap.size) (he : DqOk X wr e) : Sr T (Kn K wr w') X w w' B d v' v2 (e1 ++ [e]) e2 := by
  have hb := sr_grown hg
  have hX : ∀ j, X j → ¬ v1.ownBlock = some j := fun j hj g => (h.r1.blk j g).2 hj
  refine ⟨h.od.mine V hb (fun j hj => (h.r1.blk j hj).1) (fun j hj => (op_lt h.r1.row hj).1), fun j hj => ⟨.inl (h.xk j hj).1, Nat.lt_of_lt_of_le (h.xk j hj).2 hb.size⟩, ⟨?_, fun j hj => ?_, fun e' he' => ?_⟩, h.r2.but hb (fun j hj g => h.ne j g hj) hX (fun _ _ g => g) (fun _ _ g => g) (fun _ _ g => .inl g), fun j hj g => ?_⟩
  · simpa using hrow
  · rcases hat with g | g
    · have := h.r1.blk j (g.symm.trans hj)
      exact ⟨.inl this.1, this.2⟩
    · have e1 : wr.heap.size = j := Option.some.inj (g.symm.trans hj)
      exact ⟨.inr ⟨by omega, (op_lt hrow hj).2⟩, fun q => by have := (h.xk j q).2; omega⟩
  · rcases List.mem_append.1 he' with g | g
    · exact (h.r1.each e' g).but hb hX (fun _ _ g => g)
    · rw [List.mem_singleton.1 g]; exact he.but hb hX (fun _ _ g => g)
  · rcases hat with g1 | g1
    · exact h.ne j (g1.symm.trans hj) g
    · have e1 : wr.heap.size = j := Option.some.inj (g1.symm.trans hj)
      have := (op_lt h.r2.row g).2; omega
/-- One more is over. -/
theorem Sr.push2 {T : Td} (V : DFace T) {K X : Nat → Prop} {w wr w' : World} {B : Nat} {d : Dk} {v1 v2 v' : Value} {e1 e2 : List Dq} {e : Dq} (h : Sr T K X w wr B d v1 v2 e1 e2) (hrow : w'.ownsRow w.heap.size 80 5 v' (e2.length + 1) (e2.flatMap encD ++ encD e)) (hg : wr.grownBy w' v2.ownBlock) (hat : v'.ownBlock = v2.ownBlock ∨ v'.ownBlock = some wr.heap.size) (he : DqOk X wr e) : Sr T (Kn K wr w') X w w' B d v1 v' e1 (e2 ++ [e]) := by
  have h2 : Sr T K X w wr B d v2 v1 e2 e1 := ⟨h.od, h.xk, h.r2, h.r1, fun j hj g => h.ne j g hj⟩
  have h3 := h2.push1 V hrow hg hat he
  exact ⟨h3.od, h3.xk, h3.r2, h3.r1, fun j hj g => h3.ne j g hj⟩
/-- Another row in the place of the first one, in a block that is new. -/
theorem Sr.swap {T : Td} {K X : Nat → Prop} {w wr : World} {n : Nat} {B : Nat} {d : Dk} {v1 v2 v' : Value} {e1 e2 es : List Dq} (h : Sr T K X w wr B d v1 v2 e1 e2) (hrow : wr.ownsRow n 80 5 v' es.length (es.flatMap encD)) (hn : w.heap.size ≤ n) (hK : ∀ j, n ≤ j → j < wr.heap.size → K j ∧ ¬ X j ∧ v2.ownBlock ≠ some j) (hes : ∀ e ∈ es, DqOk X wr e) : Sr T K X w wr B d v' v2 es e2 :=
  ⟨h.od, h.xk, ⟨ownMono hn hrow, fun j hj => ⟨(hK j (op_lt hrow hj).1 (op_lt hrow hj).2).1, (hK j (op_lt hrow hj).1 (op_lt hrow hj).2).2.1⟩, hes⟩, h.r2, fun j hj => (hK j (op_lt hrow hj).1 (op_lt hrow hj).2).2.2⟩
/-- What is new is written no more. -/
theorem Sr.freeze {T : Td} (V : DFace T) {K X : Nat → Prop} {w wr w' : World} {B : Nat} {d : Dk} {v1 v2 : Value} {e1 e2 : List Dq} (h : Sr T K X w wr B d v1 v2 e1 e2) (hb : Below wr.heap.size wr w') : Sr T (Kn K wr w') (Kn X wr w') w w' B d v1 v2 e1 e2 := by
  have hX : ∀ j, j < wr.heap.size → Kn X wr w' j → X j := fun j hj g => g.elim id (fun g => by have := g.1; omega)
  have hs := hb.size
  refine ⟨h.od.step V hb, fun j hj => ?_, h.r1.but (E := fun _ => False) (.below hb) (fun _ _ => id) (fun _ _ => id) (fun _ _ g => .inl g) hX (fun _ _ g => .inl g), h.r2.but (E := fun _ => False) (.below hb) (fun _ _ => id) (fun _ _ => id) (fun _ _ g => .inl g) hX (fun _ _ g => .inl g), h.ne⟩
  rcases hj with hj | hj
  · have := h.xk j hj
    exact ⟨.inl this.1, by omega⟩
  · exact ⟨.inr hj, hj.2⟩
theorem encD_set : ∀ (es : List Dq) (k : Nat) (e : Dq) (a b c : Value) (x : Dn), es[k]? = some e → x.id = e.x.id → x.num = e.x.num → (((es.flatMap encD).set (k * 5 + 2) a).set (k * 5 + 3) b).set (k * 5 + 4) c = (es.set k ⟨x, a, b, c⟩).flatMap encD
  | e0 :: r, 0, e, a, b, c, x, h, h1, h2 => by
    cases (Option.some.inj h)
    simp [encD, h1, h2]
  | e0 :: r, k + 1, e, a, b, c, x, h, h1, h2 => by
    have := encD_set r k e a b c x (by simpa using h) h1 h2
    rw [List.flatMap_cons, List.set_cons_succ, List.flatMap_cons, ← this]
    have hl : (encD e0).length = 5 := rfl
    rw [List.set_append_right _ _ (by rw [hl]; omega), List.set_append_right _ _ (by rw [hl]; omega), List.set_append_right _ _ (by rw [hl]; omega), hl, show (k + 1) * 5 + 2 - 5 = k * 5 + 2 from by omega, show (k + 1) * 5 + 3 - 5 = k * 5 + 3 from by omega, show (k + 1) * 5 + 4 - 5 = k * 5 + 4 from by omega]
theorem set_app {l r : List Value} {j : Nat} {u : Value} (h : j < l.length) : (l ++ r).set j u = l.set j u ++ r := by
  rw [List.set_append_left _ _ h]
theorem encD_len (es : List Dq) : (es.flatMap encD).length = es.length * 5 := flat_len (k := 5) (fun _ => rfl) es
/-- The rows of one that is open have been stored. -/
theorem Sr.put {T : Td} (V : DFace T) {K X : Nat → Prop} {w wr : World} {B g n c k : Nat} {d : Dk} {v2 va vb vc : Value} {e1 e2 : List Dq} {e : Dq} {x : Dn} (h : Sr T K X w wr B d (.slice (some ⟨g, 0, none⟩) n c) v2 e1 e2) (hk : e1[k]? = some e) (h1 : x.id = e.x.id) (h2 : x.num = e.x.num) (he : DqOk X wr ⟨x, va, vb, vc⟩) :
    Sr T (Kn K wr (((wr.setCell ⟨g, k * 5 + 2, none⟩ va).setCell ⟨g, k * 5 + 3, none⟩ vb).setCell ⟨g, k * 5 + 4, none⟩ vc)) X w (((wr.setCell ⟨g, k * 5 + 2, none⟩ va).setCell ⟨g, k * 5 + 3, none⟩ vb).setCell ⟨g, k * 5 + 4, none⟩ vc) B d (.slice (some ⟨g, 0, none⟩) n c) v2 (e1.set k ⟨x, va, vb, vc⟩) e2 := by
  have hb : But (fun j => j = g) wr (((wr.setCell ⟨g, k * 5 + 2, none⟩ va).setCell ⟨g, k * 5 + 3, none⟩ vb).setCell ⟨g, k * 5 + 4, none⟩ vc) := by
    have f : ∀ {W : World}, But (fun j => j = g) wr W → ∀ (o : Nat) (u : Value), But (fun j => j = g) wr (W.setCell ⟨g, o, none⟩ u) := fun hW o u => hW.setCell (p := ⟨g, o, none⟩) (.inl rfl) u
    exact f (f (f (.refl _ _) _ _) _ _) _ _
  have hg := h.r1.blk g rfl
  have hX : ∀ j, X j → ¬ j = g := fun j hj e => hg.2 (e ▸ hj)
  have hkl : k < e1.length := (List.getElem?_eq_some_iff.1 hk).1
  have hn : n = e1.length := by
    rcases h.r1.row.2 with ⟨h0, _⟩ | ⟨g', c', cur, h0, _⟩
    · cases h0
    · cases h0; rfl
  subst hn
  obtain ⟨rest, hR, hBg, hnc, hmx, hlr⟩ := rowIn_own h.r1.row
  have hl5 := encD_len e1
  refine ⟨h.od.mine V hb (fun j hj => by rw [hj]; exact hg.1) (fun j hj => by rw [hj]; exact (op_lt h.r1.row rfl).1), fun j hj => ⟨.inl (h.xk j hj).1, Nat.lt_of_lt_of_le (h.xk j hj).2 hb.size⟩, ⟨?_, fun j hj => ⟨.inl (h.r1.blk j hj).1, (h.r1.blk j hj).2⟩, fun e' he' => ?_⟩, h.r2.but hb (fun j hj e => h.ne j (by rw [e]; rfl) hj) hX (fun _ _ g => g) (fun _ _ g => g) (fun _ _ g => .inl g), h.ne⟩
  · have hR' := ((hR.set (k * 5 + 2) va).set (k * 5 + 3) vb).set (k * 5 + 4) vc
    rw [set_app (by omega), set_app (by rw [List.length_set]; omega), set_app (by rw [List.length_set, List.length_set]; omega), encD_set e1 k e va vb vc x hk h1 h2] at hR'
    rw [List.length_set]
    exact own_rowIn hR' (by rw [encD_len, List.length_set]) hBg hnc hmx (by rw [List.length_append, encD_len, List.length_set, ← hl5, ← List.length_append]; exact hlr)
  · rcases List.mem_or_eq_of_mem_set he' with g' | g'
    · exact (h.r1.each e' g').but hb hX (fun _ _ g => g)
    · rw [g']; exact he.but hb hX (fun _ _ g => g)
end Go.Proofs.YtfnkaehpidaanaaGreatDoor

/- The contracts of burgagesame.Pick and of the law DeskSerial's changes; a row's end appended. -/
namespace Go.Proofs.YtfnkaehpidaanaaGreatDoor
open Go.RowKit Vs

set_option maxRecDepth 100000 in
theorem srPick (c : Int) (n : Nat) (w : World) (h0 : -9223372036854775808 ≤ c) (h1 : c ≤ 9223372036854775807) (hn : 0 < n) (hn2 : n ≤ 1000) : Calls Tryz.prog 35 #[.int .i64 c, .int .i64 (n : Int)] w fun e w' => (∃ k : Nat, e = .returned (.int .i64 (k : Int)) ∧ k < n) ∧ w' = w := by
  have hz : (n : Int) ≠ 0 := by omega
  by_cases hc : c < 0
  · have h2 : 0 ≤ -(c + 1) := by omega
    have h3 : 0 ≤ (-(c + 1)).tmod n := Int.tmod_nonneg _ h2
    have h4 : (-(c + 1)).tmod n < n := Int.tmod_lt_of_pos _ (by omega)
    rw [Int.neg_tmod] at h3 h4
    go_enter Tryz.func35, Tryz.ntmps35
    go_wp2
    go_ret
    exact ⟨⟨(-((c + 1).tmod n)).toNat, by rw [Int.toNat_of_nonneg h3]; rfl, by omega⟩, rfl⟩
  · have h3 : 0 ≤ c % n := Int.emod_nonneg _ hz
    have h4 : c % n < n := Int.emod_lt_of_pos _ (by omega)
    go_enter Tryz.func35, Tryz.ntmps35
    go_wp2
    go_ret
    exact ⟨⟨(c % n).toNat, by rw [Int.toNat_of_nonneg h3]; rfl, by omega⟩, rfl⟩
/-- Did it change something, by what it was told? -/
def chT (xs : List Stp) (ts : List ByteArray) : Bool := (xs.zip ts).any (fun p => decide (2 < p.1.what) && decide (p.2 = ByteArray.empty))
theorem chT_is {vs : List Ver} {i s : Int} {xs : List Stp} {ts : List ByteArray} {ps : List (List Pr)} (h : Rec vs (ox0 i s) xs ts ps) (hw : Wha xs) : chT xs ts = !decide (ownS xs = []) := by
  by_cases c : ownS xs = []
  · rw [decide_eq_true c]
    refine List.any_eq_false.2 (fun p hp => ?_)
    obtain ⟨j, hj, e⟩ := List.getElem_of_mem hp
    rw [List.getElem_zip] at e
    have h1 : xs[j]? = some p.1 := by rw [← e]; exact List.getElem?_eq_getElem _
    have h2 : ts[j]? = some p.2 := by rw [← e]; exact List.getElem?_eq_getElem _
    by_cases c2 : 2 < p.1.what
    · have := chg_none h c h1 h2 c2
      simp [this]
    · simp [c2]
  · rw [decide_eq_false c]
    cases hc : chT xs ts with
    | true => rfl
    | false =>
      refine absurd (chg_any h hw (fun j x t hx ht hw2 e => ?_)) c
      have := List.any_eq_false.1 hc (x, t) (List.mem_of_getElem? (by rw [List.getElem?_zip_eq_some]; exact ⟨hx, ht⟩))
      simp [hw2, e] at this
theorem encS_at : ∀ (l : List Stp) (i : Nat) (x : Stp), l[i]? = some x → (l.flatMap encS)[i * 6]? = some (.int .i64 x.what) ∧ (l.flatMap encS)[i * 6 + 1]? = some (.int .i64 x.who) ∧ (l.flatMap encS)[i * 6 + 2]? = some (.string x.key) ∧ (l.flatMap encS)[i * 6 + 3]? = some (.string x.hi) ∧ (l.flatMap encS)[i * 6 + 4]? = some (.string x.val) ∧ (l.flatMap encS)[i * 6 + 5]? = some (.int .i64 x.n)
  | y :: r, 0, x, h => by cases (Option.some.inj h); exact ⟨rfl, rfl, rfl, rfl, rfl, rfl⟩
  | y :: r, i + 1, x, h => by
    have := encS_at r i x (by simpa using h)
    rw [List.flatMap_cons]
    have f : ∀ j, (encS y ++ r.flatMap encS)[(i + 1) * 6 + j]? = (r.flatMap encS)[i * 6 + j]? := fun j => by
      rw [List.getElem?_append_right (by show 6 ≤ _; omega), show (i + 1) * 6 + j - (encS y).length = i * 6 + j from by show (i + 1) * 6 + j - 6 = _; omega]
    exact ⟨(f 0).trans this.1, (f 1).trans this.2.1, (f 2).trans this.2.2.1, (f 3).trans this.2.2.2.1, (f 4).trans this.2.2.2.2.1, (f 5).trans this.2.2.2.2.2⟩
theorem Fz.at {X : Nat → Prop} {w : World} {e size n : Nat} {v : Value} {cs : List Value} (h : Fz X w e size v n cs) (hn : 0 < n) : ∃ g c, v = .slice (some ⟨g, 0, none⟩) n c ∧ n ≤ c ∧ g < w.heap.size ∧ X g ∧ ∀ j, j < cs.length → w.cell? ⟨g, j, none⟩ = cs[j]? := by
  rcases h.1.2 with ⟨_, h0⟩ | ⟨g, c, cur, h0, _, hg, h3, _⟩
  · omega
  · subst h0
    exact ⟨g, c, rfl, h3, (Array.getElem?_eq_some_iff.1 hg).1, h.2 g rfl, fun j hj => h.1.cellAt j (by have := h.1.1; omega)⟩
theorem Fz.form {X : Nat → Prop} {w : World} {e size n : Nat} {v : Value} {cs : List Value} (h : Fz X w e size v n cs) : ∃ p c, v = .slice p n c ∧ n ≤ c ∧ c ≤ 9223372036854775807 := by
  obtain ⟨p, c, h1, h2, h3, _⟩ := lw_form h.1
  exact ⟨p, c, h1, h2, h3⟩
theorem strE (t : ByteArray) : t.toList.isEmpty = decide (t = ByteArray.empty) := by
  by_cases h : t = ByteArray.empty
  · subst h
    rw [decide_eq_true rfl, Lib.toList_data]; rfl
  · rw [decide_eq_false h]
    cases e : t.toList with
    | nil => exact absurd (toL.1 (e.trans (show [] = ByteArray.empty.toList from by rw [Lib.toList_data]; rfl))) h
    | cons x r => rfl
set_option maxHeartbeats 2000000 in
set_option maxRecDepth 100000 in
theorem srChanges {X : Nat → Prop} {w : World} {e : Dq} (h : DqOk X w e) (hl : e.x.td.length = e.x.st.length) : Calls Tryz.prog 37 #[.agg #[.int .i64 e.x.id, .int .i64 e.x.num, e.a, e.b, e.c]] w fun r w' => r = .returned (.bool (chT e.x.st e.x.td)) ∧ Below w.heap.size w w' := by
  obtain ⟨x, a, b, c⟩ := e
  have hA : Fz X w 33 6 a x.st.length (x.st.flatMap encS) := h.a
  have hB : Fz X w 9 1 b x.td.length (x.td.map Value.string) := h.b
  have hst : x.st.length ≤ 1000 := h.n
  clear h
  obtain ⟨pa, ca, rfl, ha1, ha2⟩ := hA.form
  obtain ⟨pb, cb, rfl, hb1, hb2⟩ := hB.form
  simp only at hl ⊢
  have hl1 : x.td.length ≤ x.st.length := by omega
  have hl2 : x.st.length ≤ x.td.length := by omega
  clear hl
  have hb0 := below_al (below_self w) (.cells #[.int .i64 x.id, .int .i64 x.num, .slice pa x.st.length ca, .slice pb x.td.length cb, c] 80)
  go_enter Tryz.func37, Tryz.ntmps37
  go_wp2
  go_loopw [3] (fun i wr => ∃ k : Nat, k ≤ x.st.length ∧ i = .int .i64 k ∧ Hid (chT x.st x.td = chT (x.st.drop k) (x.td.drop k)) ∧ wr = w.alloc (.cells #[.int .i64 x.id, .int .i64 x.num, .slice pa x.st.length ca, .slice pb x.td.length cb, c] 80)) (fun i _ => x.st.length - (intOf i).toNat)
  case atStart => exact ⟨0, by omega, rfl, rfl, rfl⟩
  case round =>
    obtain ⟨k, hk, rfl, R, rfl⟩ := hrel
    by_cases hlt : k < x.st.length
    · have hlt' : (k : Int) < (x.st.length : Int) := by omega
      have hlt2 : k < x.td.length := by omega
      have hlt2' : (k : Int) < (x.td.length : Int) := by omega
      obtain ⟨ga, ca', ea, ha3, ha4, -, ha5⟩ := hA.at (by omega)
      obtain ⟨gb, cb', eb, hb3, hb4, -, hb5⟩ := hB.at (by omega)
      cases ea
      cases eb
      obtain ⟨y, hy⟩ : ∃ y, x.st[k]? = some y := ⟨x.st[k], List.getElem?_eq_getElem hlt⟩
      obtain ⟨t, ht⟩ : ∃ t, x.td[k]? = some t := ⟨x.td[k], List.getElem?_eq_getElem hlt2⟩
      have hl6 : (x.st.flatMap encS).length = x.st.length * 6 := flat_len (k := 6) (fun _ => rfl) x.st
      have c0 : (w.alloc (.cells #[.int .i64 x.id, .int .i64 x.num, .slice (some ⟨ga, 0, none⟩) x.st.length ca, .slice (some ⟨gb, 0, none⟩) x.td.length cb, c] 80)).cell? ⟨ga, k * 6, none⟩ = some (.int .i64 y.what) := (hb0.cell (p := ⟨ga, k * 6, none⟩) ha4).trans ((ha5 _ (by omega)).trans (encS_at x.st k y hy).1)
      have c1 : (w.alloc (.cells #[.int .i64 x.id, .int .i64 x.num, .slice (some ⟨ga, 0, none⟩) x.st.length ca, .slice (some ⟨gb, 0, none⟩) x.td.length cb, c] 80)).cell? ⟨gb, k, none⟩ = some (.string t) := (hb0.cell (p := ⟨gb, k, none⟩) hb4).trans ((hb5 _ (by simp; omega)).trans (by rw [List.getElem?_map, ht]; rfl))
      have hstep : chT (x.st.drop k) (x.td.drop k) = ((decide (2 < y.what) && decide (t = ByteArray.empty)) || chT (x.st.drop (k + 1)) (x.td.drop (k + 1))) := by
        obtain ⟨h1, e1⟩ := List.getElem?_eq_some_iff.1 hy
        obtain ⟨h2, e2⟩ := List.getElem?_eq_some_iff.1 ht
        rw [List.drop_eq_getElem_cons h1, List.drop_eq_getElem_cons h2, e1, e2]
        simp [chT]
      have hse := strE t
      clear ha5 hb5 hy ht
      by_cases w2 : 2 < y.what
      · by_cases te : t = ByteArray.empty
        · have R2 : Hid (chT x.st x.td = true) := by show _ = _; rw [R.out, hstep]; simp [w2, te]
          rw [decide_eq_true te] at hse
          clear R hstep te
          go_wp2
          go_ret
          exact ⟨by rw [R2.out]; rfl, hb0⟩
        · have R2 : Hid (chT x.st x.td = chT (x.st.drop (k + 1)) (x.td.drop (k + 1))) := by show _ = _; rw [R.out, hstep]; simp [te]
          rw [decide_eq_false te] at hse
          clear R hstep te
          go_wp2
          exact ⟨⟨k + 1, by omega, by go_num, R2, trivial⟩, by simp [intOf]; omega⟩
      · have R2 : Hid (chT x.st x.td = chT (x.st.drop (k + 1)) (x.td.drop (k + 1))) := by show _ = _; rw [R.out, hstep]; simp [w2]
        clear R hstep hse
        go_wp2
        exact ⟨⟨k + 1, by omega, by go_num, R2, trivial⟩, by simp [intOf]; omega⟩
    · have R2 : Hid (chT x.st x.td = false) := by
        show _ = _
        rw [R.out, List.drop_eq_nil_of_le (by omega)]; simp [chT]
      clear R
      go_wp2
      go_ret
      exact ⟨by rw [R2.out]; rfl, hb0⟩
/-- append(v, u...), u at an address. -/
theorem wpList_append_at {w : World} {ops : Array Oper} {rest : List Oper} {o : Oper} {a : Act} {Q : Exit → Act → World → Prop} (t e : TypeId) (size bytes : Nat) (z : Value) (ht : Tryz.prog.underlying t = some (.slice e))
    (hinf : (Tryz.prog.info? e).map (fun i => (i.zero, i.size, i.bytes)) = some (some z, size, bytes)) (hzs : z.cells.size = size) (hsz : 0 < size) (hby : bytes ≤ 1000) (hgd : o.guard = none) (s x : Operand)
    (ho : o.op = .call { callee := .builtin .append, args := #[s, x], argTypes := #[t, t] })
    (base : Nat) (v : Value) (n : Nat) (xs : List Value) (hs : a.eval s = v) (hown : w.ownsRow base e size v n xs) (hbase : base ≤ w.heap.size)
    (g off m c : Nat) (cs : List Value) (hx : a.eval x = .slice (some ⟨g, off, none⟩) m c) (hlen : cs.length = m * size) (hc : ∀ j u, cs[j]? = some u → w.cell? ⟨g, off + j, none⟩ = some u) (h1 : ∀ u ∈ cs, u.oneCell' = true) (h63 : n + m ≤ 1000000)
    (h : ∀ v' w', w'.ownsRow base e size v' (n + m) (xs ++ cs) → w.grownBy w' v.ownBlock → (v'.ownBlock = v.ownBlock ∨ v'.ownBlock = some w.heap.size) → wpList Tryz.prog ops Q rest (a.put o.dst v') w') : wpList Tryz.prog ops Q (o :: rest) a w := by
  obtain ⟨i0, hin, hz0, hz1, hz2⟩ := info_parts hinf
  have hb2 : (n + m) * bytes ≤ 140737488355328 := by
    have := Nat.mul_le_mul h63 hby
    omega
  obtain ⟨v', w', hr, h2, h3, _, h5⟩ := run_append_own_at (P := Tryz.prog) w base t o.type e i0 z size bytes ht hin hz0 hz1 hz2 hzs hsz v n xs hown ⟨g, off, none⟩ m c cs hlen (fun j u hj => by
    rw [show (⟨g, off, none⟩ : Addr).add j = ⟨g, off + j, none⟩ from by unfold Addr.add; split <;> simp_all]
    exact hc j u hj) h1 (by unfold maxLen; omega) hb2 hbase
  refine wpList_plain hgd fun K hK => ?_
  unfold Oper.wp execOp
  simp only [ho, resolve, invoke, builtin, Sem.run_bind, Sem.run_pure, Result.andThen_ok, List.map_toArray, List.map_cons, List.map_nil, hs, hx, hr]
  exact hK _ _ (h v' w' h2 h3 h5)
end Go.Proofs.YtfnkaehpidaanaaGreatDoor

/- The law DeskSerial: its first desk, step by step; no range that was asked for begins at too long a text. -/
namespace Vs
open Go
def kA : ByteArray := { data := #[107] }
def sr1 : Dk := ⟨lg0 100000, [], 0, 0, 1, [⟨1, 0, 0, [], [], []⟩]⟩
def sr2 : Dk := ⟨lg0 100000, [], 0, 0, 2, [⟨1, 0, 0, [], [], []⟩, ⟨2, 0, 0, [], [], []⟩]⟩
def sr3 : Dk := ⟨lg0 100000, [], 0, 0, 2, [⟨1, 0, 0, [], [], [cK1]⟩, ⟨2, 0, 0, [], [], []⟩]⟩
def sr4 : Dk := ⟨lg0 100000, [], 0, 0, 2, [⟨1, 0, 0, [], [], [cK1]⟩, ⟨2, 0, 1, [kA], [], []⟩]⟩
def lgS : Lg := ⟨100000, [[cK1]], [], 0, -1, false⟩
def sr5 : Dk := ⟨lgS, [verC 1 cK1], 1, 1, 2, [⟨2, 0, 1, [kA], [], []⟩]⟩
def sr6 : Dk := ⟨lgS, [verC 1 cK1], 1, 1, 2, []⟩
theorem sr_b1 : bgF (dk0 100000) = 0 ∧ bgN (dk0 100000) = 1 ∧ bgD (dk0 100000) = sr1 := ⟨rfl, rfl, rfl⟩
theorem sr_b2 : bgF sr1 = 0 ∧ bgN sr1 = 2 ∧ bgD sr1 = sr2 := ⟨rfl, rfl, rfl⟩
theorem sr_p : dcF sr2 1 cK1 = 0 ∧ dcD sr2 1 cK1 = sr3 := by
  have h : opI sr2 1 = some ⟨1, 0, 0, [], [], []⟩ := by simp [opI, sr2]
  rw [dcF, dcD, h]
  simp only [sh_ok, if_true, insC]
  refine ⟨rfl, ?_⟩
  simp [opSet, sr2, sr3]
theorem sr_g : dgF sr3 2 kA = 4 ∧ dgD sr3 2 kA = sr4 := by
  have h : opI sr3 2 = some ⟨2, 0, 0, [], [], []⟩ := by simp [opI, sr3]
  have hs : shF kA ByteArray.empty = 0 := by decide
  have hv : seeO sr3.vs 0 [] kA = none := rfl
  rw [dgF, dgD, h]
  simp only [hs, if_true, hv]
  refine ⟨rfl, ?_⟩
  simp [opSet, askK, sr3, sr4]
theorem ap_okS : apF (lg0 100000) [cK1] = 0 ∧ apG (lg0 100000) [cK1] = lgS := by
  have h2 : ¬ (lg0 100000).room < (lg0 100000).by.length + 2 + (encL [cK1]).length := by decide
  unfold apF apG
  rw [if_pos cK_ok, if_pos cK_ok, if_neg h2, if_neg h2]
  exact ⟨rfl, rfl⟩
theorem sr_c : cmF sr4 1 = 0 ∧ cmN sr4 1 = 1 ∧ cmD sr4 1 = sr5 := by
  have h : opI sr4 1 = some ⟨1, 0, 0, [], [], [cK1]⟩ := by simp [opI, sr4]
  have hc : clash sr4.vs ⟨1, 0, 0, [], [], [cK1]⟩ = false := rfl
  rw [cmF, cmN, cmD, h]
  simp only [hc, Bool.false_eq_true, if_false, List.cons_ne_nil]
  rw [show sr4.lg = lg0 100000 from rfl, if_pos ap_okS.1, if_pos ap_okS.1]
  refine ⟨ap_okS.1, rfl, ?_⟩
  simp [addL, opDel, sr4, sr5, ap_okS.2]
theorem sr_x : cmF sr5 2 = 6 ∧ cmD sr5 2 = sr6 := by
  have h : opI sr5 2 = some ⟨2, 0, 1, [kA], [], []⟩ := by simp [opI, sr5]
  have hc : clash sr5.vs ⟨2, 0, 1, [kA], [], []⟩ = true := by
    have hk : cK1.k = kA := rfl
    simp [clash, snc, sr5, verC, hk]
  rw [cmF, cmD, h]
  simp only [hc, if_true]
  refine ⟨trivial, ?_⟩
  simp [opDel, sr5, sr6]
end Vs
namespace Go.Proofs.YtfnkaehpidaanaaGreatDoor
open Go.RowKit Vs
theorem sr_sm1 : Sm sr1 := ⟨by decide, by decide⟩
theorem sr_sm2 : Sm sr2 := ⟨by decide, by decide⟩
theorem sr_sm3 : Sm sr3 := ⟨by decide, by decide⟩
theorem sr_sm4 : Sm sr4 := ⟨by decide, by decide⟩
theorem sr_sm5 : Sm sr5 := ⟨by decide, by decide⟩
theorem sr_sm6 : Sm sr6 := ⟨by decide, by decide⟩
theorem sr_z4 : Spz sr4 := fun o ho s hs => by
  rcases List.mem_cons.1 ho with rfl | ho
  · simp at hs
  · rw [List.mem_singleton.1 ho] at hs; simp at hs
theorem sr_z5 : Spz sr5 := fun o ho s hs => by
  rw [List.mem_singleton.1 ho] at hs; simp at hs
theorem Spz.bg {d : Dk} (h : Spz d) : Spz (bgD d) := fun o ho => by
  unfold bgD at ho
  split at ho
  · rcases List.mem_append.1 ho with ho | ho
    · exact h o ho
    · rw [List.mem_singleton.1 ho]; intro s hs; simp at hs
  · exact h o ho
theorem Spz.del {d : Dk} (h : Spz d) (i : Int) : Spz (opDel d i) := fun o ho => h o (memF ho)
theorem Spz.cm {d : Dk} (h : Spz d) (i : Int) : Spz (cmD d i) := by
  have hd := h.del i
  unfold cmD
  cases e : opI d i with
  | none => exact h
  | some o =>
    simp only
    split
    · exact hd
    · split
      · exact hd
      · split
        · exact hd
        · exact hd
theorem Spz.act {d : Dk} (h : Spz d) {o : Ox} (ho : o ∈ d.op) {x : Stp} (hx : x.key.size ≤ 1048576) : Spz (opSet d (nextO o x)) := fun q hq => by
  obtain ⟨y, hy, rfl⟩ := List.mem_map.1 hq
  split
  · have hn : ∀ s ∈ (nextO o x).spans, s ∈ o.spans ∨ s = (x.key, x.hi) := by
      unfold nextO
      split
      · split
        · exact fun s hs => .inl hs
        · exact fun s hs => (List.mem_append.1 hs).imp id (fun g => List.mem_singleton.1 g)
      · split
        · split
          · split <;> exact fun s hs => .inl hs
          · exact fun s hs => .inl hs
        · split
          · split <;> exact fun s hs => .inl hs
          · exact fun s hs => .inl hs
    intro s hs
    rcases hn s hs with g | g
    · exact h o ho s g
    · rw [g]; show x.key.size < _; omega
  · exact h y hy
theorem Spz.new (r : Int) : Spz (dk0 r) := fun o ho => by simp [dk0] at ho
theorem sdSm {k : Nat} {d : Dk} {op ov : List Dn} (h : Sd k d op ov) (hk : k ≤ 100) : Sm d := ⟨by have := h.wl; omega, by have := h.ids; omega⟩
end Go.Proofs.YtfnkaehpidaanaaGreatDoor

/- The law DeskSerial: the other desk beside the first one and what is over. -/
namespace Go.Proofs.YtfnkaehpidaanaaGreatDoor
open Go.RowKit Vs

/-- The other desk a; the first one, d, and the row of those that are over are to be read alone. -/
structure S2 (T : Td) (K X : Nat → Prop) (w wr : World) (Ba : Nat) (a : Dk) (B : Nat) (d : Dk) (v2 : Value) (e2 : List Dq) : Prop where
  od : Od T K w wr Ba a
  xk : ∀ j, X j → K j ∧ j < wr.heap.size
  dd : ∃ F : Nat → Prop, T wr F B d ∧ ∀ j, F j → K j ∧ j < wr.heap.size
  r2 : OwnE w.heap.size K X wr v2 e2
theorem S2.kn {T : Td} (V : DFace T) {K X : Nat → Prop} {w wr w' : World} {Ba B : Nat} {a d : Dk} {v2 : Value} {e2 : List Dq} (h : S2 T K X w wr Ba a B d v2 e2) (hb : Below wr.heap.size wr w') : S2 T (Kn K wr w') X w w' Ba a B d v2 e2 := by
  obtain ⟨F, h1, h2⟩ := h.dd
  exact ⟨h.od.step V hb, fun j hj => ⟨.inl (h.xk j hj).1, Nat.lt_of_lt_of_le (h.xk j hj).2 hb.size⟩, ⟨F, V.step h1 hb, fun j hj => ⟨.inl (h2 j hj).1, Nat.lt_of_lt_of_le (h2 j hj).2 hb.size⟩⟩, h.r2.but (E := fun _ => False) (.below hb) (fun _ _ => id) (fun _ _ => id) (fun _ _ g => g) (fun _ _ g => g) (fun _ _ g => .inl g)⟩
theorem S2.kw {T : Td} (V : DFace T) {K X : Nat → Prop} {w wr w' : World} {Ba B : Nat} {a a' d : Dk} {v2 : Value} {e2 : List Dq} (h : S2 T K X w wr Ba a B d v2 e2) (o : Od T (Kw K wr) w w' Ba a') (hb : But (fun j => ¬ K j) wr w') : S2 T (Kw K wr) X w w' Ba a' B d v2 e2 := by
  obtain ⟨F, h1, h2⟩ := h.dd
  exact ⟨o, fun j hj => ⟨h.xk j hj, Nat.lt_of_lt_of_le (h.xk j hj).2 hb.size⟩, ⟨F, V.but h1 hb (fun j _ hj g => g (h2 j hj).1), fun j hj => ⟨h2 j hj, Nat.lt_of_lt_of_le (h2 j hj).2 hb.size⟩⟩, h.r2.but hb (fun j hj g => g (h.r2.blk j hj).1) (fun j hj g => g (h.xk j hj).1) (fun _ _ g => g) (fun _ _ g => g) (fun _ hj g => ⟨g, hj⟩)⟩
theorem S2.act {T : Td} (V : DFace T) {K X : Nat → Prop} {w wr w' : World} {Ba B : Nat} {a a' d : Dk} {v2 : Value} {e2 : List Dq} {q : Option Addr} {cq : Nat} {l : List Pr} (h : S2 T K X w wr Ba a B d v2 e2) (ac : Acted T K w wr w' Ba a' q cq l) : ∃ K' : Nat → Prop, S2 T K' X w w' Ba a' B d v2 e2 ∧ PrAt w' q l ∧ l.length ≤ cq ∧ (∀ j, j < wr.heap.size → K j → K' j) ∧ But (fun j => ¬ K j) wr w' := by
  obtain ⟨K', g1, g2, g3, g4, g5, hb⟩ := ac
  obtain ⟨F, h1, h2⟩ := h.dd
  have hs := hb.size
  exact ⟨K', ⟨g5, fun j hj => ⟨g2 j (h.xk j hj).2 (h.xk j hj).1, by have := (h.xk j hj).2; omega⟩, ⟨F, V.but h1 hb (fun j _ hj g => g (h2 j hj).1), fun j hj => ⟨g2 j (h2 j hj).2 (h2 j hj).1, by have := (h2 j hj).2; omega⟩⟩, h.r2.but hb (fun j hj g => g (h.r2.blk j hj).1) (fun j hj g => g (h.xk j hj).1) (fun _ _ g => g) (fun _ _ g => g) g2⟩, g4.at, g1, g2, hb⟩
/-- A box of the law's own: its five cells. -/
structure Db (w : World) (b : Nat) (e : Dq) : Prop where
  c0 : w.cell? ⟨b, 0, none⟩ = some (.int .i64 e.x.id)
  c1 : w.cell? ⟨b, 1, none⟩ = some (.int .i64 e.x.num)
  c2 : w.cell? ⟨b, 2, none⟩ = some e.a
  c3 : w.cell? ⟨b, 3, none⟩ = some e.b
  c4 : w.cell? ⟨b, 4, none⟩ = some e.c
theorem Db.lt {w : World} {b : Nat} {e : Dq} (h : Db w b e) : b < w.heap.size := World.block_lt_of_cell? _ _ h.c0
theorem Db.but {F : Nat → Prop} {w w' : World} {b : Nat} {e : Dq} (h : Db w b e) (hb : But F w w') (hF : ¬ F b) : Db w' b e :=
  ⟨(hb.cell (p := ⟨b, 0, none⟩) h.lt hF).trans h.c0, (hb.cell (p := ⟨b, 1, none⟩) h.lt hF).trans h.c1, (hb.cell (p := ⟨b, 2, none⟩) h.lt hF).trans h.c2, (hb.cell (p := ⟨b, 3, none⟩) h.lt hF).trans h.c3, (hb.cell (p := ⟨b, 4, none⟩) h.lt hF).trans h.c4⟩
theorem Db.new (w : World) (t : Nat) (e : Dq) : Db (w.alloc (.cells #[.int .i64 e.x.id, .int .i64 e.x.num, e.a, e.b, e.c] t)) w.heap.size e := ⟨by simp, by simp, by simp, by simp, by simp⟩
theorem encD_at : ∀ (l : List Dq) (i : Nat) (e : Dq), l[i]? = some e → (l.flatMap encD)[i * 5]? = some (.int .i64 e.x.id) ∧ (l.flatMap encD)[i * 5 + 1]? = some (.int .i64 e.x.num) ∧ (l.flatMap encD)[i * 5 + 2]? = some e.a ∧ (l.flatMap encD)[i * 5 + 3]? = some e.b ∧ (l.flatMap encD)[i * 5 + 4]? = some e.c
  | y :: r, 0, x, h => by cases (Option.some.inj h); exact ⟨rfl, rfl, rfl, rfl, rfl⟩
  | y :: r, i + 1, x, h => by
    have := encD_at r i x (by simpa using h)
    rw [List.flatMap_cons]
    have f : ∀ j, (encD y ++ r.flatMap encD)[(i + 1) * 5 + j]? = (r.flatMap encD)[i * 5 + j]? := fun j => by
      rw [List.getElem?_append_right (by show 5 ≤ _; omega), show (i + 1) * 5 + j - (encD y).length = i * 5 + j from by show (i + 1) * 5 + j - 5 = _; omega]
    exact ⟨(f 0).trans this.1, (f 1).trans this.2.1, (f 2).trans this.2.2.1, (f 3).trans this.2.2.2.1, (f 4).trans this.2.2.2.2⟩
/-- One of a row: where it lies. -/
theorem OwnE.at {n0 : Nat} {K X : Nat → Prop} {w : World} {p : Option Addr} {c : Nat} {es : List Dq} (h : OwnE n0 K X w (.slice p es.length c) es) {i : Nat} {e : Dq} (hi : es[i]? = some e) : ∃ g, p = some ⟨g, 0, none⟩ ∧ g < w.heap.size ∧ K g ∧ w.cell? ⟨g, i * 5, none⟩ = some (.int .i64 e.x.id) ∧ w.cell? ⟨g, i * 5 + 1, none⟩ = some (.int .i64 e.x.num) ∧ w.cell? ⟨g, i * 5 + 2, none⟩ = some e.a ∧ w.cell? ⟨g, i * 5 + 3, none⟩ = some e.b ∧ w.cell? ⟨g, i * 5 + 4, none⟩ = some e.c := by
  have hlt := (List.getElem?_eq_some_iff.1 hi).1
  rcases h.row.2 with ⟨_, h0⟩ | ⟨g, c', cur, h0, _, hg, _⟩
  · omega
  · cases h0
    obtain ⟨a0, a1, a2, a3, a4⟩ := encD_at es i e hi
    exact ⟨g, rfl, (Array.getElem?_eq_some_iff.1 hg).1, (h.blk g rfl).1, (h.row.cellAt _ (by omega)).trans a0, (h.row.cellAt _ (by omega)).trans a1, (h.row.cellAt _ (by omega)).trans a2, (h.row.cellAt _ (by omega)).trans a3, (h.row.cellAt _ (by omega)).trans a4⟩
end Go.Proofs.YtfnkaehpidaanaaGreatDoor
