/- Five cards: kinds and values, pure. Nothing of a translation. -/
import Derived.Test.YtodmaomngpnboaaCk
set_option linter.unusedVariables false
namespace Go.Proofs.Ytodmaomngpnboaa

/-- all lists of k numbers from 0 to 4 with the sum s -/
def allC : Nat → Nat → List (List Nat)
  | 0, s => if s = 0 then [[]] else []
  | k + 1, s => (List.range 5).flatMap fun n => if n ≤ s then (allC k (s - n)).map (n :: ·) else []
theorem allC_mem : ∀ (c : List Nat) (s : Nat), (∀ x ∈ c, x ≤ 4) → c.sum = s → c ∈ allC c.length s
  | [], s, _, h => by subst h; simp [allC]
  | n :: c, s, h4, h => by
    have h1 : n + c.sum = s := by simpa using h
    show n :: c ∈ allC (c.length + 1) s
    unfold allC
    rw [List.mem_flatMap]
    refine ⟨n, List.mem_range.2 (by have := h4 n (by simp); omega), ?_⟩
    rw [if_pos (by omega), List.mem_map]
    exact ⟨c, allC_mem c (s - n) (fun x hx => h4 x (by simp [hx])) (by omega), rfl⟩
/-- the ranks that are there n times, each n times; the counts are those from r - 1 down -/
def rkL (n : Nat) : List Nat → Nat → List Nat
  | x :: d, r + 1 => bif Nat.beq x n then List.replicate n r ++ rkL n d r else rkL n d r
  | _, _ => []
def mnL (n : Nat) : List Nat → List Nat
  | x :: d => bif Nat.beq x n then n :: mnL n d else mnL n d
  | [] => []
/-- all ranks, those of which there are more first -/
def ordC (c : List Nat) : Nat → List Nat
  | 0 => []
  | n + 1 => rkL (n + 1) c 13 ++ ordC c n
def manC (c : List Nat) : Nat → List Nat
  | 0 => []
  | n + 1 => mnL (n + 1) c ++ manC c n
/-- is there a row below h, of five ranks -/
def fiveO : List Nat → Bool
  | 1 :: 1 :: 1 :: 1 :: 1 :: _ => true
  | _ => false
/-- the greatest rank of a row, as one more, 0 for none -/
def rowL : List Nat → Nat → Nat
  | x :: d, h + 1 => bif fiveO (x :: d) then h + 4 else rowL d h
  | _, _ => 0
def rowC (c : List Nat) (n : Nat) : Nat := rowL (c ++ c.take 1) n
def kindC (c : List Nat) (one : Bool) : Nat :=
  let m := manC c 4
  let row := rowC c 10
  if one && decide (1 ≤ row) then 8
  else if m.getD 0 0 == 4 then 7
  else if m.getD 0 0 == 3 && m.getD 1 0 == 2 then 6
  else if one then 5
  else if decide (1 ≤ row) then 4
  else if m.getD 0 0 == 3 then 3
  else if m.getD 0 0 == 2 && m.getD 1 0 == 2 then 2
  else if m.getD 0 0 == 2 then 1
  else 0
def digC (c : List Nat) : List Nat := if 1 ≤ rowC c 10 then [rowC c 10 - 1, 0, 0, 0, 0] else ordC c 4
/-- as the program tells them, by the order S of the ranks -/
def rowI (c S : List Nat) : Nat × Bool :=
  if S = [12, 3, 2, 1, 0] then (3, true) else (S.getD 0 0, c.getD (12 - S.getD 0 0) 0 == 1 && S.getD 0 0 == S.getD 4 0 + 4)
def kindI (c S : List Nat) (one : Bool) : Nat :=
  let most := c.getD (12 - S.getD 0 0) 0
  let next := c.getD (12 - S.getD most 0) 0
  if (rowI c S).2 && one then 8
  else if most == 4 then 7
  else if most == 3 && next == 2 then 6
  else if one then 5
  else if (rowI c S).2 then 4
  else if most == 3 then 3
  else if most == 2 && next == 2 then 2
  else if most == 2 then 1
  else 0
def digI (c S : List Nat) : List Nat := if (rowI c S).2 = true then [(rowI c S).1, 0, 0, 0, 0] else S
def okC (c : List Nat) : Bool :=
  let S := ordC c 4
  S.length == 5 && decide (1 ≤ c.getD (12 - S.getD 0 0) 0) && decide (c.getD (12 - S.getD 0 0) 0 ≤ 4) && kindI c S true == kindC c true && kindI c S false == kindC c false && digI c S == digC c && (S.all fun r => decide (r ≤ 12)) && decide (1 ≤ (manC c 4).length) && ((manC c 4).getD 0 0 == 1 || (manC c 4).getD 0 0 == 4 || decide (2 ≤ (manC c 4).length))
end Go.Proofs.Ytodmaomngpnboaa
