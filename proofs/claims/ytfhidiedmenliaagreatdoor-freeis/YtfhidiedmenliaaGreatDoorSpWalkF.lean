/- The contracts of Make, Has, combine, Union, Meet and Minus. -/
import Derived.Test.YtfhidiedmenliaaGreatDoorSpWalkC
import Derived.Test.YtfhidiedmenliaaGreatDoorSpWalkE
namespace Bur
def mkS (l : List Sp) : List Sp := if mkF l = 0 then mk l else []
def twF (how : Int) (a b : List Sp) : Int := if setF a = 0 then (if setF b = 0 then (if 64 < (two how a b).length then 3 else 0) else setF b) else setF a
def twS (how : Int) (a b : List Sp) : List Sp := if twF how a b = 0 then two how a b else []
def haF (l : List Sp) (x : Int) : Int := if setF l = 0 then (if isA x = true then 0 else 1) else setF l
def haB (l : List Sp) (x : Int) : Bool := decide (haF l x = 0) && mem l x
end Bur
namespace Go.Proofs.YtfhidiedmenliaaGreatDoor
open Go.RowKit

theorem anF_at {l : List Bur.Sp} {k : Nat} (hk : k < l.length) : Bur.anF (l.drop k) = if Bur.spF (lo l k) (hi l k) = 0 then Bur.anF (l.drop (k + 1)) else Bur.spF (lo l k) (hi l k) := by
  rw [drop_sp hk]; rfl
theorem cat1 (p : Option Addr) (c : Nat) (l : List Bur.Sp) : cat [(p, c, l)] = l := by simp [cat]
theorem cat2 (p : Option Addr) (c : Nat) (l : List Bur.Sp) (q : Option Addr) (d : Nat) (m : List Bur.Sp) : cat [(p, c, l), (q, d, m)] = l ++ m := by simp [cat]


end Go.Proofs.YtfhidiedmenliaaGreatDoor
