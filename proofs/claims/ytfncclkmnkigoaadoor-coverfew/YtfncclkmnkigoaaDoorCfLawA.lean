/- The walk of the law CoverFew: its last piece. -/
import Derived.Test.YtfncclkmnkigoaaDoorCvSpans
namespace Go.Proofs.YtfncclkmnkigoaaDoor
open Go.RowKit

set_option maxRecDepth 100000 in
set_option maxHeartbeats 8000000 in
theorem few2 {l : List Bur.Sp} {pp : Option Addr} {cp : Nat} {w wx : World} {c0 c2 c3 c4 c5 c6 c7 c8 c9 c10 c11 c12 c13 c14 c15 c16 c17 c18 c19 c20 c21 c22 c23 c24 c25 c26 c27 c28 c29 c30 c31 c32 c33 c34 c35 c36 c37 c38 c39 c40 c41 c42 c43 c44 c45 c46 c47 c48 c49 c50 c51 c52 c53 c54 c55 c56 c57 c58 c59 c60 c61 c62 c63 c64 c65 c66 c67 c68 c69 c70 c71 c72 c73 c74 c75 c76 c77 c78 c79 c80 c81 c82 c83 c84 c85 c86 c87 c88 c89 c90 c91 c92 c93 c94 c95 c96 c97 c98 c99 c100 c101 c102 c103 c104 c105 c106 c107 c108 c109 c110 c111 c112 c113 c114 c115 c116 c117 c118 c119 c120 c121 c122 c123 c124 c125 c126 c127 c128 c129 c130 c131 c132 c133 c134 c135 c136 c137 c138 c139 c140 c141 c142 c143 c144 c145 c146 c147 c148 c149 c150 c151 c152 c153 c154 c155 c156 c157 c158 c159 c160 c161 c162 c163 c164 c165 c166 c167 c168 c169 c170 c171 c172 c173 : Value} (ll : l.length ≤ 9223372036854775807) (sl : SpAt wx pp l) (hT : Tab wx) (hb : Below w.heap.size w wx) :
    Code.wp Tryd.prog (dropSeq 5 (Tryd.f5.body.getD .skip)) (bodyPost Tryd.prog Tryd.f5 fun e w' => e = .returned (.bool true) ∧ Below w.heap.size w w') ⟨#[c0, .slice pp l.length cp, c2, c3, c4, c5, c6, c7, c8, c9, c10, c11, c12, c13, c14, c15, c16, c17, c18, c19, c20, c21, c22, c23, c24, c25, c26, c27, c28, c29, c30, c31, c32, c33, c34, c35, c36, c37, c38, c39, c40, c41, c42, c43, c44, c45, c46, c47, c48, c49, c50, c51, c52, c53, c54, c55, c56, c57, c58, c59, c60, c61, c62, c63, c64, c65, c66, c67, c68, c69, c70, c71, c72, c73, c74, c75, c76, c77, c78, c79, c80, c81, c82, c83, c84, c85, c86, c87, c88, c89, c90, c91, c92, c93, c94, c95, c96, c97, c98, c99, c100, c101, c102, c103, c104, c105, c106, c107, c108, c109, c110, c111, c112, c113, c114, c115, c116, c117, c118, c119, c120, c121, c122, c123, c124, c125, c126, c127, c128, c129, c130, c131, c132, c133, c134, c135, c136, c137, c138, c139, c140, c141, c142, c143, c144, c145, c146, c147, c148, c149, c150, c151, c152, c153, c154, c155, c156, c157, c158, c159, c160, c161, c162, c163, c164, c165, c166, c167, c168, c169, c170, c171, c172, c173], []⟩ wx := by
  have hlt := hT.lt
  have hl1 := Bur.fwS_len l
  have hl2 := Bur.psS_len l
  conv => arg 2; whnf
  go_wp2_with fail
  refine (coverFewest pp cp l wx ll sl hT).mono ?_
  rintro e w1 ⟨q, cq, rfl, sq, hb1⟩
  replace sl := sl.step hb1
  have hT1 := hT.step hb1 hlt
  have hlt1 := hT1.lt
  replace hb := below_via hb hb1
  clear hb1 hT hlt
  by_cases hf : Bur.fwF l = 0
  · obtain ⟨f1, f2, f3, f4, f5, f6⟩ := Bur.few hf
    have E0 : Hid (ev (Bur.fwF l) = .nilIface) := by show _ = _; rw [hf]; rfl
    have E1 : Hid (ev (Bur.psF l) = .nilIface) := by show _ = _; rw [f1]; rfl
    have E2 : Hid (ev (Bur.psF (Bur.fwS l)) = .nilIface) := by show _ = _; rw [f2]; rfl
    have E3 : Hid (Bur.psS (Bur.fwS l) = Bur.psS l) := f3
    have E4 : Hid (ev (Bur.fwF (Bur.fwS l)) = .nilIface) := by show _ = _; rw [f4]; rfl
    have E5 : Hid (Bur.fwS (Bur.fwS l) = Bur.fwS l) := f5
    have f6' : ((Bur.fwS l).length : Int) ≤ (l.length : Int) := by omega
    clear hf f1 f2 f3 f4 f5 f6
    rw [E0.out]
    go_wp2_with fail
    refine (coverSpans pp cp l w1 ll sl).mono ?_
    rintro e w2 ⟨pa, ca, rfl, sa, hb1⟩
    rw [E1.out]
    replace sq := sq.step hb1
    have hT2 := hT1.step hb1 hlt1
    replace hb := below_via hb hb1
    clear hb1
    go_wp2_with fail
    refine (coverSpans q cq (Bur.fwS l) w2 (by omega) sq).mono ?_
    rintro e w3 ⟨pb, cb, rfl, sb, hb1⟩
    rw [E2.out, E3.out]
    rw [E3.out] at sb
    replace sq := sq.step hb1
    replace sa := sa.step hb1
    have hT3 := hT2.step hb1 hT2.lt
    replace hb := below_via hb hb1
    clear hb1
    go_wp2_with fail
    refine (spans_same pa pb ca cb (Bur.psS l) w3 (by omega) sa sb).mono ?_
    rintro e w4 ⟨rfl, hb1⟩
    replace sq := sq.step hb1
    have hT4 := hT3.step hb1 hT3.lt
    replace hb := below_via hb hb1
    clear hb1 sa sb
    go_wp2_with fail
    refine (coverFewest q cq (Bur.fwS l) w4 (by omega) sq hT4).mono ?_
    rintro e w5 ⟨pc, cc, rfl, sc, hb1⟩
    rw [E4.out, E5.out]
    rw [E5.out] at sc
    replace sq := sq.step hb1
    replace hb := below_via hb hb1
    clear hb1
    go_wp2_with fail
    refine (prefixes_same pc q cc cq (Bur.fwS l) w5 (by omega) sc sq).mono ?_
    rintro e w6 ⟨rfl, hb1⟩
    replace hb := below_via hb hb1
    clear hb1 sc sq sl
    go_wp2_with fail
    go_ret
    exact ⟨rfl, hb⟩
  · have E0 : Hid (ev (Bur.fwF l) = errN (Bur.fwF l)) := ev_ne hf
    rw [E0.out]
    clear hf sq sl
    go_wp2_with fail
    go_ret
    exact ⟨rfl, hb⟩
end Go.Proofs.YtfncclkmnkigoaaDoor
