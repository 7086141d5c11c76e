/- Which player is picked next: pure, and two rows of the call's own. -/
import Derived.Test.YtfipcpbibmhjoabAe
import Derived.Test.YtfipcpbibmhjoabSy
set_option linter.unusedVariables false
namespace Go.Proofs.Ytfipcpbibmhjoab
open Go.RowKit
/-- the best so far of those below k that are not in l, or -1 -/
def BestAt (s o : List Int) (l : List Nat) (k : Nat) (z : Int) : Prop :=
  (z = -1 ∧ ∀ y, y < k → y ∈ l) ∨ ∃ b : Nat, z = (b : Int) ∧ b < k ∧ b ∉ l ∧ ∀ y, y < k → y ∉ l → y ≠ b → Bef s o b y
theorem best_in {s o : List Int} {l : List Nat} {k : Nat} {z : Int} (h : BestAt s o l k z) (hk : k ∈ l) : BestAt s o l (k + 1) z := by
  rcases h with ⟨e, h⟩ | ⟨b, e, hb, hbl, h⟩
  · refine .inl ⟨e, fun y hy => ?_⟩
    by_cases hyk : y = k
    · rw [hyk]; exact hk
    · exact h y (by omega)
  · refine .inr ⟨b, e, by omega, hbl, fun y hy hyl hyb => ?_⟩
    by_cases hyk : y = k
    · exact absurd hk (hyk ▸ hyl)
    · exact h y (by omega) hyl hyb
theorem best_first {s o : List Int} {l : List Nat} {k : Nat} (h : ∀ y, y < k → y ∈ l) (hk : k ∉ l) : BestAt s o l (k + 1) (k : Int) := by
  refine .inr ⟨k, rfl, by omega, hk, fun y hy hyl hyk => ?_⟩
  exact absurd (h y (by omega)) hyl
theorem best_win {s o : List Int} {l : List Nat} {k b : Nat} (hb : b < k) (h : ∀ y, y < k → y ∉ l → y ≠ b → Bef s o b y) (hk : k ∉ l) (hkb : kb s o k b) : BestAt s o l (k + 1) (k : Int) := by
  refine .inr ⟨k, rfl, by omega, hk, fun y hy hyl hyk => ?_⟩
  have h1 : Bef s o k b := .inl hkb
  by_cases hyb : y = b
  · rw [hyb]; exact h1
  · exact h1.trans (h y (by omega) hyl hyb)
theorem best_stay {s o : List Int} {l : List Nat} {k b : Nat} (hb : b < k) (hbl : b ∉ l) (h : ∀ y, y < k → y ∉ l → y ≠ b → Bef s o b y) (hkb : ¬ kb s o k b) : BestAt s o l (k + 1) (b : Int) := by
  refine .inr ⟨b, rfl, by omega, hbl, fun y hy hyl hyb => ?_⟩
  by_cases hyk : y = k
  · rw [hyk]; exact .inr ⟨hkb, hb⟩
  · exact h y (by omega) hyl hyb
theorem best_end {s o : List Int} {l : List Nat} {n : Nat} {z : Int} (h : BestAt s o l n z) (hs : l.Pairwise (Bef s o)) (hn : l.length < n) : ∃ b : Nat, z = (b : Int) ∧ b < n ∧ b ∉ l ∧ ∀ y, y < n → y ∉ l → y ≠ b → Bef s o b y := by
  rcases h with ⟨e, h⟩ | h
  · obtain ⟨x, hx, hxl⟩ := some_left hs hn
    exact absurd (h x hx) hxl
  · exact h
/-- who has been picked -/
def flT (n : Nat) (l : List Nat) : List Bool := (List.range n).map (fun x => decide (x ∈ l))
theorem flT_len (n : Nat) (l : List Nat) : (flT n l).length = n := by simp [flT]
theorem flT_nil (n : Nat) : flT n [] = List.replicate n false := by
  apply List.ext_getElem
  · simp [flT]
  · intro i h1 h2; simp [flT]
theorem flT_at (n : Nat) (l : List Nat) (k : Nat) (h : k < n) : (flT n l)[k]? = some (decide (k ∈ l)) := by
  simp [flT, h]
theorem flT_set (n : Nat) (l : List Nat) (b : Nat) (h : b < n) : (flT n l).set b true = flT n (l ++ [b]) := by
  apply List.ext_getElem
  · simp [flT]
  · intro i h1 h2
    rw [List.getElem_set]
    by_cases e : b = i
    · subst e; simp [flT]
    · rw [if_neg e]
      have : ¬ i = b := fun h => e h.symm
      simp [flT, this]
theorem own_form {w : World} {base : Nat} {e : TypeId} {size : Nat} {v : Value} {n : Nat} {xs : List Value} (h : w.ownsRow base e size v n xs) : ∃ p cap, v = .slice p n cap := by
  rcases h.2 with ⟨e, hz⟩ | ⟨g, cap, cur, e, _⟩
  · subst hz; exact ⟨_, _, e⟩
  · exact ⟨_, _, e⟩
theorem set_grown (w : World) (T k : Nat) (x : Value) : w.grownBy (w.setCell ⟨T, k, none⟩ x) (some T) :=
  ⟨rfl, rfl, rfl, by simp [World.setCell], fun i _ hne => Below.heap_setCell _ _ _ _ (fun e => hne (by rw [e]))⟩
theorem drawn_cell {a b : World} (h : Drawn a b) (p : Addr) : b.cell? p = a.cell? p := by
  obtain ⟨m, rfl⟩ := h; rfl
theorem drawn_more {a b : World} (h : Drawn a b) (n : Nat) : Drawn a (b.drewN n) := by
  obtain ⟨m, rfl⟩ := h; exact ⟨m + n, by simp [World.drewN, Nat.add_assoc]⟩
theorem drawn_own {a b : World} (h : Drawn a b) {base : Nat} {e : TypeId} {size : Nat} {v : Value} {n : Nat} {xs : List Value} (g : a.ownsRow base e size v n xs) : b.ownsRow base e size v n xs := by
  obtain ⟨m, rfl⟩ := h; exact g
theorem drawn_below {a b : World} (h : Drawn a b) {B : Nat} {w : World} (g : Below B w a) : Below B w b := by
  obtain ⟨m, rfl⟩ := h; exact ⟨g.os, g.tape, g.output, g.size, g.block⟩
theorem drawn_size {a b : World} (h : Drawn a b) : b.heap.size = a.heap.size := by
  obtain ⟨m, rfl⟩ := h; rfl
theorem inT_any {x lo hi : Int} (h : rB x lo hi = true) (w : World) : Calls Try.prog 46 #[.int .i64 x, .int .i64 lo, .int .i64 hi] w fun e w' => e = .returned (.bool true) ∧ w = w' :=
  (inR_any x lo hi w).mono fun e w' ⟨h1, h2⟩ => ⟨by rw [h1, h], h2⟩
theorem inF_any {x lo hi : Int} (h : rB x lo hi = false) (w : World) : Calls Try.prog 46 #[.int .i64 x, .int .i64 lo, .int .i64 hi] w fun e w' => e = .returned (.bool false) ∧ w = w' :=
  (inR_any x lo hi w).mono fun e w' ⟨h1, h2⟩ => ⟨by rw [h1, h], h2⟩
theorem rB_at {lo hi : Int} {fs : List Int} (h : allB lo hi fs = true) (k : Nat) (hk : k < fs.length) : rB (fs.getD k 0) lo hi = true := by
  obtain ⟨h1, h2⟩ := allB_at h k hk
  unfold rB
  rw [decide_eq_true h1, decide_eq_true h2]; rfl
theorem allB_all {lo hi : Int} {fs : List Int} (h : ∀ k, k < fs.length → rB (fs.getD k 0) lo hi = true) : allB lo hi fs = true := by
  unfold allB
  rw [List.all_eq_true]
  intro k hk
  have := h k (List.mem_range.1 hk)
  unfold rB at this
  exact this
end Go.Proofs.Ytfipcpbibmhjoab
