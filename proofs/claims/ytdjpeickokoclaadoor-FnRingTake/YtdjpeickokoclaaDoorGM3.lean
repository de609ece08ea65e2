/-
  Plain mathematics: texts of bytes in a range.
-/
namespace Go.Proofs.YtdjpeickokoclaaDoor
/-- Each byte of a text lies between two bounds. -/
def inr (lo hi : Int) (l : List UInt8) : Bool := l.all fun c => decide (lo ≤ (c.toNat : Int)) && decide ((c.toNat : Int) ≤ hi)
end Go.Proofs.YtdjpeickokoclaaDoor
/-
  Plain mathematics: how far two texts are, letter by letter.
-/
namespace Go.Proofs.YtdjpeickokoclaaDoor
/-- What it costs to change one letter into another one. -/
def cost (x y : Nat → UInt8) (i k : Nat) : Int := if x i = y k then 0 else 1
/-- The last two letters of both are each other's turned. -/
def tr (x y : Nat → UInt8) (i k : Nat) : Bool := decide (0 < i) && (decide (0 < k) && ((x i == y (k - 1)) && (x (i - 1) == y k)))
/-- How far the beginnings of lengths i and k are. -/
def D (x y : Nat → UInt8) : Nat → Nat → Int
  | 0, k => k
  | i + 1, 0 => i + 1
  | i + 1, k + 1 =>
    if tr x y i k then min (min (D x y i k + cost x y i k) (min (D x y i (k + 1) + 1) (D x y (i + 1) k + 1))) (D x y (i - 1) (k - 1) + 1)
    else min (D x y i k + cost x y i k) (min (D x y i (k + 1) + 1) (D x y (i + 1) k + 1))
/-- The letters of a text by their places. -/
def lt (s : ByteArray) (j : Nat) : UInt8 := s.data.toList.getD j 0
/-- How far two texts are. -/
def far (a b : ByteArray) : Int := D (lt a) (lt b) a.size b.size
end Go.Proofs.YtdjpeickokoclaaDoor
