import Derived.Test.YtbkdaoicnobllabDoorGRefB

/- Plain mathematics: what a number is rounded to. -/
namespace Go.Proofs.YtbkdaoicnobllabDoor
open Go.RowKit

/-- The least normal number's power of two. -/
def fLow (f : Int) : Int := if f = 0 then -14 else if f = 1 then -126 else -1022
/-- The amount of infinity. -/
def infN (f : Int) : Nat := if f = 0 then 31744 else if f = 1 then 2139095040 else 9218868437227405312

/-- The amount r and the flags fl to which the number X / 10^K is rounded (P6, P7). -/
def RoundSpec (K : Nat) (f mode : Int) (neg : Bool) (X : Nat) (r fl : Int) : Prop :=
  (X = 0 ∧ r = 0 ∧ fl = 0) ∨
  (0 < X ∧ valA K f (infN f) ≤ X ∧ fl = 3 ∧ r = if awayB mode neg 3 true = true then (infN f : Int) else (infN f : Int) - 1) ∨
  (0 < X ∧ X < valA K f (infN f) ∧ ∃ a : Nat, a < infN f ∧ valA K f a ≤ X ∧ X < valA K f (a + 1) ∧
    ((X = valA K f a ∧ r = a ∧ fl = 0) ∨
     (X ≠ valA K f a ∧ r = (if awayB mode neg (cmpN (X * 2) (valA K f a + valA K f (a + 1)) + 2) (a % 2 == 1) = true then (a : Int) + 1 else (a : Int)) ∧
      fl = 1 + (if X < two K (fLow f) then 4 else 0) + (if r = infN f then 2 else 0))))

theorem keep_cell {w w' : World} {a : Addr} {v : Value} (hb : Below w.heap.size w w') (h : w.cell? a = some v) : w'.cell? a = some v :=
  (hb.cell (p := a) (World.block_lt_of_cell? w a h)).trans h

end Go.Proofs.YtbkdaoicnobllabDoor
