/- What the package code is asked for. -/
import Derived.Test.YtoacbiefhdkkpaaDoorCdBy
import Derived.Test.YtoacbiefhdkkpaaDoorCdAns
namespace Go.Proofs.YtoacbiefhdkkpaaDoor
open Go.RowKit Go.Lib

/-- What package code answers. -/
structure CFace : Prop where
  check : ∀ {w : World} (l : List Vs.Chg) (p : Option Addr) (cp : Nat), l.length ≤ 9223372036854775807 → ChAt w p l → Calls Tryd.prog 7 #[.slice p l.length cp] w fun e w' => e = .returned (ev (Vs.chF l)) ∧ Below w.heap.size w w'
  encode : ∀ {w : World} (l : List Vs.Chg) (p : Option Addr) (cp : Nat), l.length ≤ 9223372036854775807 → ChAt w p l → Calls Tryd.prog 9 #[.slice p l.length cp] w fun e w' => ∃ (q : Option Addr) (cq : Nat), e = .returned (.tuple #[.slice q (Vs.enS l).length cq, ev (Vs.chF l)]) ∧ ByAt w' q (Vs.enS l) ∧ (Vs.enS l).length ≤ cq ∧ Below w.heap.size w w'
  decode : ∀ {w : World} (b : List UInt8) (p : Option Addr) (cp : Nat), b.length ≤ 9223372036854775807 → b.length ≤ cp → ByAt w p b → Calls Tryd.prog 11 #[.slice p b.length cp] w fun e w' => ∃ (q : Option Addr) (cq : Nat), e = .returned (.tuple #[.slice q (Vs.deS b).length cq, ev (Vs.deF b)]) ∧ ChAt w' q (Vs.deS b) ∧ Below w.heap.size w w'
end Go.Proofs.YtoacbiefhdkkpaaDoor
