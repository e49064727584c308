/-
  A net's mail in plain words.
-/
import Derived.Test.YtlejlmlgcehjiaaProg
namespace Go.Proofs.Ytlejlmlgcehjiaa
namespace Net
/-- A message without its entries. -/
structure Hd where
  ki : Int
  fr : Int
  tt : Int
  st : Int
  ep : Int
  vi : Int
  ba : Int
  le : Int
  sp : Int
  oi : Int
  os : Int
  ox : Int
  ok : Int
  oa : Int
  ai : Int
  ac : Int
  av : Int
structure Ent where
  ep : Int
  oi : Int
  os : Int
  ox : Int
  ok : Int
  oa : Int
structure Ml where
  h : Hd
  es : List Ent
def hd0 : Hd := ⟨0, 0, 0, 0, 0, 0, 0, 0, 0, 0, 0, 0, 0, 0, 0, 0, 0⟩
def ml0 : Ml := ⟨hd0, []⟩
def In (M : List Ml) (i : Int) : Prop := 0 ≤ i ∧ i < (M.length : Int)
instance (M : List Ml) (i : Int) : Decidable (In M i) := inferInstanceAs (Decidable (0 ≤ i ∧ i < (M.length : Int)))
def send (M : List Ml) (m : Ml) : List Ml × Bool := if 512 ≤ M.length then (M, false) else (M ++ [m], true)
def look (M : List Ml) (i : Int) : List Ml × Ml × Bool := if In M i then (M, M.getD i.toNat ml0, true) else (M, ml0, false)
def take (M : List Ml) (i : Int) : List Ml × Ml × Bool := if In M i then (M.eraseIdx i.toNat, M.getD i.toNat ml0, true) else (M, ml0, false)
def copy (M : List Ml) (i : Int) : List Ml × Bool := if In M i then send M (M.getD i.toNat ml0) else (M, false)
def act (M : List Ml) (k : Int) (m : Ml) (i : Int) : List Ml × Ml × Bool :=
  if k % 9 = 4 then look M i else if k % 9 = 5 then take M i else if k % 9 = 6 then take M i
  else if k % 9 = 7 then ((copy M i).1, ml0, (copy M i).2) else if k % 9 = 8 then ((take M i).1, ml0, (take M i).2.2)
  else ((send M m).1, ml0, (send M m).2)
end Net
end Go.Proofs.Ytlejlmlgcehjiaa
