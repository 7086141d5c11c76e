/- The library's Collect of the parts of a list, whole. -/
import Derived.Test.YtodmaomngpnboaaItB
import Derived.Test.YtodmaomngpnboaaDb
set_option linter.unusedVariables false
namespace Go.Proofs.Ytodmaomngpnboaa
open Go.RowKit Go.Shelf
attribute [local go_sem] Oper.semAt_some

/-- where the i-th part of k cells begins -/
def partA (p : Option Addr) (k i : Nat) : Option Addr := p.map fun a => ⟨a.block, a.off + i * k, none⟩
def partV (p : Option Addr) (k i : Nat) : Value := .slice (partA p k i) k k
theorem gobI {w w' : World} (h : Below w.heap.size w w') : w.grownBy w' none := ⟨h.os, h.tape, h.output, h.size, fun i hi _ => h.block i hi⟩
set_option maxRecDepth 100000 in
set_option maxHeartbeats 1000000 in
theorem chunk0_in (F : Fence) (n : Nat) (h7 : F.fn 168) (hro : F.round = none) (hn : 1 ≤ n) (l B1 B2 : Nat) (p : Option Addr) (cap : Nat) (J : List Nat → World → Prop)
    (W : World) (c1 : W.cell? ⟨B1, 0, none⟩ = some (.slice p 0 cap)) (h0 : J [] W) :
    CallsIn F n Try.prog 168 #[.func (.yield l) #[] #[], .pointer (some ⟨B1, 0, none⟩), .pointer (some ⟨B2, 0, none⟩)] W fun e W' => (∃ v, e = .returned v) ∧ J [] W' := by
  have H0 := Lib.hid h0
  refine callsIn_of_wp Try.func168 rfl h7 ?_ hro
  simp only [Try.ntmps168, List.size_toArray, List.length_cons, List.length_nil, Nat.reduceAdd, Nat.reduceSub, Array.replicate_succ, Array.replicate_zero, List.push_toArray, List.append_toArray, List.nil_append, List.cons_append]
  gi_wp2
  gi_loopw [4] (fun i wr => i = .int .i64 0 ∧ Hid (wr = W)) (fun _ _ => 0)
  case atStart => exact ⟨rfl, Lib.hid rfl⟩
  case round =>
    obtain ⟨rfl, hw⟩ := hrel
    obtain rfl := hw.out
    gi_wp2
    go_end0
    exact ⟨⟨_, rfl⟩, H0.out⟩
theorem chunk_stops (B1 B2 n₀ L cap k cnt : Nat) (p : Option Addr) (hk : 1 ≤ k) (hk2 : k ≤ 1000) (hcn : L ≤ 1000000) (hL : L = cnt * k) (hcap : L ≤ cap) (hp : 0 < L → ∃ b off, p = some ⟨b, off, none⟩) (w : World) (h1 : B1 < n₀) (h2 : B2 < n₀) (hn₀ : n₀ ≤ w.heap.size)
    (c1 : w.cell? ⟨B1, 0, none⟩ = some (.slice p L cap)) (c2 : w.cell? ⟨B2, 0, none⟩ = some (.int .i64 (k : Int))) (n : Nat) (hn : 1 ≤ n) :
    SeqStopsK Fence.wide n Try.prog 168 #[.pointer (some ⟨B1, 0, none⟩), .pointer (some ⟨B2, 0, none⟩)] (fun i => #[.slice (partA p k i) k k]) (Below n₀) (fun ys => ys = List.range cnt) (fun (pre : List Nat) => ∃ m, m ≤ cnt ∧ pre = List.range m) cnt w := fun l J Jx W hW hJ _ hY h0 => by
  have e1 := (hW.cell (p := ⟨B1, 0, none⟩) (by show B1 < _; omega)).trans c1
  have e2 := (hW.cell (p := ⟨B2, 0, none⟩) (by show B2 < _; omega)).trans c2
  by_cases h : 0 < L
  · obtain ⟨b, off, rfl⟩ := hp h
    exact chunk1_in Fence.wide n trivial rfl hn l B1 B2 n₀ b off L cap k cnt hk hk2 hcn (Lib.hid hL) hcap h1 h2 J Jx (Lib.hid fun s A B hs hb => hJ s A B none hs (gobI hb) (fun r e => by cases e)) (fun pre x W h1 h2 _ => hY pre x W h1 h2) W e1 e2 h0
  · obtain rfl : L = 0 := by omega
    have hc0 : cnt = 0 := by
      rcases Nat.eq_zero_or_pos cnt with h5 | h5
      · exact h5
      · have := Nat.mul_pos h5 (show 0 < k by omega); omega
    subst hc0
    exact (chunk0_in Fence.wide n trivial rfl hn l B1 B2 p cap J W e1 h0).mono fun e W' ⟨hv, hj⟩ => ⟨hv, .inl ⟨[], rfl, hj⟩⟩
/-- all parts, as one list of slices -/
theorem collectP_any (p : Option Addr) (L cap k cnt : Nat) (w0 w : World) (hk : 1 ≤ k) (hk2 : k ≤ 1000) (hcn : L ≤ 1000000) (hL : L = cnt * k) (hcap : L ≤ cap) (hp : 0 < L → ∃ b off, p = some ⟨b, off, none⟩)
    (hw : w = (w0.alloc (.cells #[.slice p L cap] 22)).alloc (.cells #[.int .i64 (k : Int)] 3)) :
    Calls Try.prog 136 #[.func (.func 168) #[] #[.pointer (some ⟨w0.heap.size, 0, none⟩), .pointer (some ⟨w0.heap.size + 1, 0, none⟩)]] w fun e w' => ∃ r, e = .returned r ∧ Sw (partV p k) 0 w' r (List.range cnt) w.heap.size w'.heap.size ∧ Below w.heap.size w w' := by
  have hz : w.heap.size = w0.heap.size + 2 := by rw [hw]; simp
  have c1 : w.cell? ⟨w0.heap.size, 0, none⟩ = some (.slice p L cap) := by
    rw [hw, World.cell?_alloc_past _ _ _ (by simp)]; exact World.cell?_alloc_at _ _ _ _ rfl
  have c2 : w.cell? ⟨w0.heap.size + 1, 0, none⟩ = some (.int .i64 (k : Int)) := by rw [hw]; exact World.cell?_alloc_at _ _ _ _ (by simp)
  have hcnt : cnt ≤ 1000000 := by
    have := Nat.le_mul_of_pos_right cnt (show 0 < k by omega); omega
  have HA := Lib.hid (appendSeqP_any 168 #[.pointer (some ⟨w0.heap.size, 0, none⟩), .pointer (some ⟨w0.heap.size + 1, 0, none⟩)] (partA p k) (fun _ => k) (fun _ => k) cnt hcnt w w (Below.refl _ _)
    (run_enter Try.func168 (by kernel_rfl) (by kernel_rfl))
    (chunk_stops w0.heap.size (w0.heap.size + 1) w.heap.size L cap k cnt p hk hk2 hcn hL hcap hp w (by omega) (by omega) (Nat.le_refl _) c1 c2 2 (by omega)))
  clear hw c1 c2 hL hp hcap
  go_enter Try.func136, Try.ntmps136
  go_wp2_with fail
  refine HA.out.mono ?_
  rintro e w' ⟨v, rfl, hv, hb⟩
  have Hv := Lib.hid (Sw.of_owns (mk := partV p k) (d := 0) (fs := List.range cnt) hv (by simp))
  have Hb := Lib.hid hb
  clear hv hb
  go_wp2
  go_ret
  exact ⟨v, rfl, Hv.out, Hb.out⟩
/-- a part of a list -/
theorem Sl.partV {w : World} {p : Option Addr} {L cap k cnt : Nat} {fs : List Int} (h : Sl (Value.int .i64) 0 w (.slice p L cap) fs) (hk : 1 ≤ k) (hf : fs.length = cnt * k) (i : Nat) (hi : i < cnt) : Sl (Value.int .i64) 0 w (partV p k i) ((fs.drop (i * k)).take k) := by
  obtain ⟨p', cap', e, h⟩ := h
  cases e
  have h1 : i * k + k ≤ cnt * k := by rw [← Nat.succ_mul]; exact Nat.mul_le_mul_right k hi
  obtain ⟨hc, b, off, rfl, hb, hcs⟩ := h (by omega)
  have hl : ((fs.drop (i * k)).take k).length = k := by rw [List.length_take, List.length_drop]; omega
  refine ⟨_, _, by rw [hl]; rfl, fun _ => ⟨by rw [hl]; exact Nat.le_refl _, b, off + i * k, rfl, hb, fun j hj => ?_⟩⟩
  rw [hl] at hj
  rw [Nat.add_assoc, hcs (i * k + j) (by omega)]
  simp only [List.getD, List.getElem?_take, List.getElem?_drop]
  rw [if_pos hj]
end Go.Proofs.Ytodmaomngpnboaa
