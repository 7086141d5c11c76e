/- Slices whose elements are one cell each: what a slice reads as, where its cells lie, what a store does. Nothing of a translation. -/
import Derived.WalkKit
import Derived.ProofKit
import Derived.Deep.Draws
set_option linter.unusedVariables false
namespace Go.Proofs.Ytfihnnhgegdjkaa
open Go.RowKit

/-- v is a slice that reads as the list -/
def Sl {α : Type} (mk : α → Value) (d : α) (w : World) (v : Value) (fs : List α) : Prop :=
  ∃ p cap, v = .slice p fs.length cap ∧ (0 < fs.length → fs.length ≤ cap ∧ ∃ b off, p = some ⟨b, off, none⟩ ∧ b < w.heap.size ∧ ∀ i, i < fs.length → w.cell? ⟨b, off + i, none⟩ = some (mk (fs.getD i d)))
theorem Sl.later {α : Type} {mk : α → Value} {d : α} {w w' : World} {v : Value} {fs : List α} (h : Sl mk d w v fs) (hb : Below w.heap.size w w') : Sl mk d w' v fs := by
  obtain ⟨p, cap, rfl, h⟩ := h
  refine ⟨p, cap, rfl, fun h0 => ?_⟩
  obtain ⟨hcap, b, off, rfl, hbs, hc⟩ := h h0
  exact ⟨hcap, b, off, rfl, Nat.lt_of_lt_of_le hbs hb.size, fun i hi => by rw [hb.cell hbs]; exact hc i hi⟩
/-- .. which may be written, and whose cells lie in a block from lo to below hi -/
def Sw {α : Type} (mk : α → Value) (d : α) (w : World) (v : Value) (fs : List α) (lo hi : Nat) : Prop :=
  ∃ p cap, v = .slice p fs.length cap ∧ (0 < fs.length → fs.length ≤ cap ∧ ∃ b off, p = some ⟨b, off, none⟩ ∧ lo ≤ b ∧ b < hi ∧ hi ≤ w.heap.size ∧ ∀ i, i < fs.length → w.cell? ⟨b, off + i, none⟩ = some (mk (fs.getD i d)) ∧ w.frozen? ⟨b, off + i, none⟩ = false)
theorem Sw.sl {α : Type} {mk : α → Value} {d : α} {w : World} {v : Value} {fs : List α} {lo hi : Nat} (h : Sw mk d w v fs lo hi) : Sl mk d w v fs := by
  obtain ⟨p, cap, rfl, h⟩ := h
  refine ⟨p, cap, rfl, fun h0 => ?_⟩
  obtain ⟨hcap, b, off, rfl, h1, h2, h3, hc⟩ := h h0
  exact ⟨hcap, b, off, rfl, by omega, fun i hi => (hc i hi).1⟩
theorem Sw.later {α : Type} {mk : α → Value} {d : α} {w w' : World} {v : Value} {fs : List α} {lo hi : Nat} (h : Sw mk d w v fs lo hi) (hb : Below w.heap.size w w') : Sw mk d w' v fs lo hi := by
  obtain ⟨p, cap, rfl, h⟩ := h
  refine ⟨p, cap, rfl, fun h0 => ?_⟩
  obtain ⟨hcap, b, off, rfl, h1, h2, h3, hc⟩ := h h0
  have := hb.size
  exact ⟨hcap, b, off, rfl, h1, h2, by omega, fun i hi => ⟨by rw [hb.cell (by show b < _; omega)]; exact (hc i hi).1, by rw [hb.frozen (by show b < _; omega)]; exact (hc i hi).2⟩⟩
theorem Sw.mono {α : Type} {mk : α → Value} {d : α} {w : World} {v : Value} {fs : List α} {lo hi lo' hi' : Nat} (h : Sw mk d w v fs lo hi) (h1 : lo' ≤ lo) (h2 : hi ≤ hi') (h3 : hi' ≤ w.heap.size) : Sw mk d w v fs lo' hi' := by
  obtain ⟨p, cap, rfl, h⟩ := h
  refine ⟨p, cap, rfl, fun h0 => ?_⟩
  obtain ⟨hcap, b, off, rfl, g1, g2, g3, hc⟩ := h h0
  exact ⟨hcap, b, off, rfl, by omega, by omega, h3, hc⟩
theorem Sw.drewN {α : Type} {mk : α → Value} {d : α} {w : World} {v : Value} {fs : List α} {lo hi : Nat} (h : Sw mk d w v fs lo hi) (n : Nat) : Sw mk d (w.drewN n) v fs lo hi := h
theorem Sl.drewN {α : Type} {mk : α → Value} {d : α} {w : World} {v : Value} {fs : List α} (h : Sl mk d w v fs) (n : Nat) : Sl mk d (w.drewN n) v fs := h
theorem Sl.nil {α : Type} (mk : α → Value) (d : α) (w : World) (p : Option Addr) (cap : Nat) : Sl mk d w (.slice p 0 cap) [] := ⟨p, cap, rfl, fun h => absurd h (by simp)⟩
theorem Sw.nil {α : Type} (mk : α → Value) (d : α) (w : World) (p : Option Addr) (cap lo hi : Nat) : Sw mk d w (.slice p 0 cap) [] lo hi := ⟨p, cap, rfl, fun h => absurd h (by simp)⟩
theorem Sw.open' {α : Type} {mk : α → Value} {d : α} {w : World} {p : Option Addr} {n cap : Nat} {fs : List α} {lo hi : Nat} (h : Sw mk d w (.slice p n cap) fs lo hi) (k : Nat) (hk : k < fs.length) :
    ∃ b off, p = some ⟨b, off, none⟩ ∧ (lo ≤ b ∧ b < hi ∧ hi ≤ w.heap.size) ∧ b < w.heap.size ∧ w.cell? ⟨b, off + k, none⟩ = some (mk (fs.getD k d)) ∧ w.frozen? ⟨b, off + k, none⟩ = false := by
  obtain ⟨p', cap', e, h⟩ := h
  obtain ⟨hcap, b, off, rfl, g1, g2, g3, hc⟩ := h (by omega)
  cases e
  exact ⟨b, off, rfl, ⟨g1, g2, g3⟩, by omega, (hc k hk).1, (hc k hk).2⟩
/-- nothing but the blocks from lo to below hi has turned -/
structure Only (lo hi : Nat) (w w' : World) : Prop where
  os : w'.os = w.os
  tape : w'.tape = w.tape
  output : w'.output = w.output
  size : w'.heap.size = w.heap.size
  block : ∀ k, ¬ (lo ≤ k ∧ k < hi) → w'.heap[k]? = w.heap[k]?
theorem Only.refl (lo hi : Nat) (w : World) : Only lo hi w w := ⟨rfl, rfl, rfl, rfl, fun _ _ => rfl⟩
theorem Only.step' {lo hi : Nat} {w w' : World} (h : Only lo hi w w') (a : Addr) (v : Value) (h1 : lo ≤ a.block) (h2 : a.block < hi) : Only lo hi w (w'.setCell a v) :=
  ⟨h.os, h.tape, h.output, by simp [World.setCell, h.size], fun k hk => (Below.heap_setCell _ _ _ _ (fun e => hk (by omega))).trans (h.block k hk)⟩
theorem Only.drewN {lo hi : Nat} {w w' : World} (h : Only lo hi w w') (n : Nat) : Only lo hi w (w'.drewN n) := ⟨h.os, h.tape, h.output, h.size, h.block⟩
theorem Below.only {B lo hi : Nat} {a w w' : World} (h : Below B a w) (g : Only lo hi w w') (hB : B ≤ lo) : Below B a w' :=
  h.trans ⟨g.os, g.tape, g.output, Nat.le_of_eq g.size.symm, fun k hk => g.block k (by omega)⟩
theorem Sw.apart {α : Type} {mk : α → Value} {d : α} {w w' : World} {v : Value} {fs : List α} {lo hi l2 h2 : Nat} (h : Sw mk d w v fs lo hi) (g : Only l2 h2 w w') (ha : hi ≤ l2 ∨ h2 ≤ lo) : Sw mk d w' v fs lo hi := by
  obtain ⟨p, cap, rfl, h⟩ := h
  refine ⟨p, cap, rfl, fun h0 => ?_⟩
  obtain ⟨hcap, b, off, rfl, g1, g2, g3, hc⟩ := h h0
  have hb : w'.heap[b]? = w.heap[b]? := g.block b (by omega)
  exact ⟨hcap, b, off, rfl, g1, g2, by rw [g.size]; exact g3, fun i hi => ⟨(World.cell?_of_block (a := ⟨b, off + i, none⟩) hb).trans (hc i hi).1, (World.frozen?_of_block (a := ⟨b, off + i, none⟩) hb).trans (hc i hi).2⟩⟩
theorem Sw.still {α : Type} {mk : α → Value} {d : α} {w w' : World} {v : Value} {fs : List α} {lo hi : Nat} (h : Sw mk d w v fs lo hi) (g : Only 0 0 w w') : Sw mk d w' v fs lo hi := h.apart g (.inr (Nat.zero_le _))
theorem Below.still {B : Nat} {a w w' : World} (h : Below B a w) (g : Only 0 0 w w') : Below B a w' := h.trans ⟨g.os, g.tape, g.output, Nat.le_of_eq g.size.symm, fun k hk => g.block k (by omega)⟩
theorem Only.ofDraws (w : World) (n : Nat) : Only 0 0 w (w.drewN n) := ⟨rfl, rfl, rfl, rfl, fun _ _ => rfl⟩
theorem Sl.apart {α : Type} {mk : α → Value} {d : α} {w w' w0 : World} {v : Value} {fs : List α} {l2 h2 : Nat} (h : Sl mk d w0 v fs) (hb : Below w0.heap.size w0 w) (g : Only l2 h2 w w') (ha : w0.heap.size ≤ l2) : Sl mk d w' v fs :=
  h.later (Below.only hb g ha)

theorem getD_lt {α : Type} (fs : List α) (d : α) (k : Nat) (h : k < fs.length) : fs.getD k d = fs[k] := by simp [List.getD, h]
theorem Sw.store {α : Type} {mk : α → Value} {d : α} {w : World} {b off n cap : Nat} {fs : List α} {lo hi : Nat} (h : Sw mk d w (.slice (some ⟨b, off, none⟩) n cap) fs lo hi) (k : Nat) (hk : k < fs.length) (x : α) :
    Sw mk d (w.setCell ⟨b, off + k, none⟩ (mk x)) (.slice (some ⟨b, off, none⟩) n cap) (fs.set k x) lo hi := by
  obtain ⟨p', cap', e, h⟩ := h
  obtain ⟨hcap, b', off', rfl, g1, g2, g3, hc⟩ := h (by omega)
  cases e
  refine ⟨_, _, by rw [List.length_set], fun _ => ⟨by rw [List.length_set]; exact hcap, b, off, rfl, g1, g2, by simpa [World.setCell] using g3, fun i hi => ?_⟩⟩
  rw [List.length_set] at hi
  refine ⟨?_, by rw [World.frozen?_setCell]; exact (hc i hi).2⟩
  by_cases e : i = k
  · subst e
    rw [World.cell?_setCell_same _ _ _ (hc i hi).1]
    simp [List.getD, hi]
  · rw [World.cell?_setCell_other _ _ _ _ (fun h => e (by injection h; omega)), (hc i hi).1]
    simp [List.getD, show ¬ k = i from fun h => e h.symm]
theorem Sw.block {α : Type} {mk : α → Value} {d : α} {w : World} {b off n cap : Nat} {fs : List α} {lo hi : Nat} (h : Sw mk d w (.slice (some ⟨b, off, none⟩) n cap) fs lo hi) (h0 : 0 < fs.length) : lo ≤ b ∧ b < hi := by
  obtain ⟨p', cap', e, h⟩ := h
  obtain ⟨hcap, b', off', rfl, g1, g2, g3, hc⟩ := h h0
  cases e
  exact ⟨g1, g2⟩

/-- the row of a copy after k rounds -/
def copied {α : Type} (mk : α → Value) (z : Value) (fs : List α) (k : Nat) : List Value := (fs.take k).map mk ++ List.replicate (fs.length - k) z
theorem copied_len {α : Type} (mk : α → Value) (z : Value) (fs : List α) (k : Nat) (h : k ≤ fs.length) : (copied mk z fs k).length = fs.length := by
  unfold copied; simp; omega
theorem copied_at {α : Type} (mk : α → Value) (z : Value) (fs : List α) (k : Nat) (h : k < fs.length) : (copied mk z fs k)[k]? = some z := by
  unfold copied
  have e : ((fs.take k).map mk).length = k := by simp; omega
  rw [List.getElem?_append_right (by omega), e, Nat.sub_self, List.getElem?_replicate, if_pos (by omega)]
theorem made1 (z : Value) (n : Nat) : (madeCells #[z] n).toList = List.replicate n z := by
  apply List.ext_getElem
  · simp [madeCells]
  · intro i h1 h2
    simp [madeCells, Nat.mod_one]
theorem copied_set {α : Type} (mk : α → Value) (z : Value) (fs : List α) (d : α) (k : Nat) (h : k < fs.length) : (copied mk z fs k).set k (mk (fs.getD k d)) = copied mk z fs (k + 1) := by
  unfold copied
  rw [List.set_append_right _ _ (by simp; omega), getD_lt fs d k h, List.take_succ_eq_append_getElem h, List.map_append, List.append_assoc]
  congr 1
  have e : fs.length - k = (fs.length - (k + 1)) + 1 := by omega
  have e2 : k - (List.map mk (List.take k fs)).length = 0 := by simp; omega
  rw [e2, e, List.replicate_succ]
  rfl
theorem copied_done {α : Type} (mk : α → Value) (z : Value) (fs : List α) (d : α) (i : Nat) (h : i < fs.length) : (copied mk z fs fs.length)[i]? = some (mk (fs.getD i d)) := by
  unfold copied
  rw [List.take_length, Nat.sub_self, List.replicate_zero, List.append_nil, List.getElem?_map, getD_lt fs d i h, List.getElem?_eq_getElem h]
  rfl

/-- a beginning that is written, and what is left -/
def mixed {α : Type} (ms fs : List α) : List α := ms ++ fs.drop ms.length
theorem mixed_len {α : Type} (ms fs : List α) (h : ms.length ≤ fs.length) : (mixed ms fs).length = fs.length := by
  unfold mixed; simp; omega
theorem mixed_get {α : Type} (ms fs : List α) (d : α) (k : Nat) (h : ms.length = k) : (mixed ms fs).getD k d = fs.getD k d := by
  unfold mixed
  subst h
  simp only [List.getD]
  rw [List.getElem?_append_right (Nat.le_refl _), Nat.sub_self, List.getElem?_drop, Nat.add_zero]
theorem mixed_set {α : Type} (ms fs : List α) (x : α) (k : Nat) (h : ms.length = k) (hk : k < fs.length) : (mixed ms fs).set k x = mixed (ms ++ [x]) fs := by
  subst h
  unfold mixed
  rw [List.set_append_right _ _ (Nat.le_refl _), Nat.sub_self, List.drop_eq_getElem_cons hk, List.length_append, List.append_assoc]
  rfl
theorem mixed_done {α : Type} (ms fs : List α) (h : ms.length = fs.length) : mixed ms fs = ms := by
  unfold mixed
  rw [List.drop_of_length_le (by omega), List.append_nil]
def marksI (a n : Nat) : List Int := (List.range n).map fun i => ((a + i : Nat) : Int)
theorem marksI_len (a n : Nat) : (marksI a n).length = n := by simp [marksI]
theorem marksI_succ (a n : Nat) : marksI a (n + 1) = marksI a n ++ [((a + n : Nat) : Int)] := by unfold marksI; rw [List.range_succ, List.map_append]; rfl
theorem marksI_get (a n : Nat) (d : Int) (k : Nat) (h : k < n) : (marksI a n).getD k d = ((a + k : Nat) : Int) := by simp [marksI, List.getD, h]
def marksB (a n : Nat) : List Bool := (List.range n).map fun i => decide ((a + i) % 3 = 0)
theorem marksB_len (a n : Nat) : (marksB a n).length = n := by simp [marksB]
theorem marksB_succ (a n : Nat) : marksB a (n + 1) = marksB a n ++ [decide ((a + n) % 3 = 0)] := by unfold marksB; rw [List.range_succ, List.map_append]; rfl
theorem marksB_get (a n : Nat) (d : Bool) (k : Nat) (h : k < n) : (marksB a n).getD k d = decide ((a + k) % 3 = 0) := by simp [marksB, List.getD, h]

theorem below_drewN {B : Nat} {a w : World} (h : Below B a w) (n : Nat) : Below B a (w.drewN n) := ⟨h.os, h.tape, h.output, h.size, h.block⟩
theorem cell_keep {w w' : World} {a : Addr} {v : Value} (hb : Below w.heap.size w w') (h : w.cell? a = some v) : w'.cell? a = some v := (hb.cell (World.block_lt_of_cell? _ _ h)).trans h
/-- w' is w but for draws -/
def Drawn (w w' : World) : Prop := ∃ n, w' = w.drewN n
theorem Drawn.refl (w : World) : Drawn w w := ⟨0, rfl⟩
theorem Drawn.more {w w' : World} (h : Drawn w w') (n : Nat) : Drawn w (w'.drewN n) := by
  obtain ⟨m, rfl⟩ := h
  exact ⟨m + n, World.drewN_drewN _ _ _⟩
theorem Drawn.trans {a b c : World} (h : Drawn a b) (g : Drawn b c) : Drawn a c := by
  obtain ⟨m, rfl⟩ := g
  exact h.more m
theorem Drawn.cell {w w' : World} (h : Drawn w w') (a : Addr) : w'.cell? a = w.cell? a := by
  obtain ⟨m, rfl⟩ := h
  rfl
theorem Drawn.heap {w w' : World} (h : Drawn w w') : w'.heap = w.heap := by
  obtain ⟨m, rfl⟩ := h
  rfl
theorem Drawn.only {w w' : World} (h : Drawn w w') : Only 0 0 w w' := by
  obtain ⟨m, rfl⟩ := h
  exact Only.ofDraws w m
theorem Drawn.below {w w' : World} (h : Drawn w w') (B : Nat) : Below B w w' := by
  obtain ⟨m, rfl⟩ := h
  exact below_drewN (Below.refl B w) m
theorem Sl.drawn {α : Type} {mk : α → Value} {d : α} {w w' : World} {v : Value} {fs : List α} (h : Sl mk d w v fs) (g : Drawn w w') : Sl mk d w' v fs := by
  obtain ⟨m, rfl⟩ := g
  exact h
theorem Sw.drawn {α : Type} {mk : α → Value} {d : α} {w w' : World} {v : Value} {fs : List α} {lo hi : Nat} (h : Sw mk d w v fs lo hi) (g : Drawn w w') : Sw mk d w' v fs lo hi := by
  obtain ⟨m, rfl⟩ := g
  exact h
theorem one_int (x : Int) : ∀ u ∈ [Value.int .i64 x], u.oneCell' = true := by
  intro u hu
  rw [List.mem_singleton] at hu
  subst hu; rfl
theorem mod3 (a k : Nat) : (((a : Int) + (k : Int)) % 3 == 0) = decide ((a + k) % 3 = 0) := by
  rw [Bool.eq_iff_iff]; simp; omega
theorem ret_bool {a b : Bool} (h : a = b) : Ending.returned (.bool a) = .returned (.bool b) := by rw [h]
theorem ret_int {k : IntKind} {a b : Int} (h : a = b) : Ending.returned (.int k a) = .returned (.int k b) := by rw [h]
theorem wfi64 {n : Int} (h : (Lit.int .i64 n).wf = true) : -9223372036854775808 ≤ n ∧ n ≤ 9223372036854775807 := by simpa [Lit.wf, IntKind.min, IntKind.max, IntKind.signed, IntKind.bits] using h
theorem below_step {B : Nat} {a b c : World} (h : Below B a b) (g : Below b.heap.size b c) (hB : B ≤ a.heap.size) : Below B a c := h.trans (g.mono (Nat.le_trans hB h.size))
end Go.Proofs.Ytfihnnhgegdjkaa
