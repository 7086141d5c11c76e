/- The library's iterator over the parts of a list, where the body writes one block that lay ahead: its contract. -/
import Derived.Test.YtodmaomngpnboaaItE
import Derived.Test.YtodmaomngpnboaaTrB
set_option linter.unusedVariables false
namespace Go.Proofs.Ytodmaomngpnboaa
open Go.RowKit Go.Shelf
attribute [local go_sem] Oper.semAt_some

/-- what lay below n lies as it lay, but for the block G -/
structure Bex (n G : Nat) (w w' : World) : Prop where
  os : w'.os = w.os
  tape : w'.tape = w.tape
  output : w'.output = w.output
  size : w.heap.size ≤ w'.heap.size
  block : ∀ k, k < n → k ≠ G → w'.heap[k]? = w.heap[k]?
theorem Bex.refl (n G : Nat) (w : World) : Bex n G w w := ⟨rfl, rfl, rfl, Nat.le_refl _, fun _ _ _ => rfl⟩
theorem Bex.trans {n G : Nat} {a b c : World} (h : Bex n G a b) (k : Bex n G b c) : Bex n G a c :=
  ⟨k.os.trans h.os, k.tape.trans h.tape, k.output.trans h.output, Nat.le_trans h.size k.size, fun i hi hg => (k.block i hi hg).trans (h.block i hi hg)⟩
theorem bex_of {n G : Nat} {a b : World} (h : Below n a b) : Bex n G a b := ⟨h.os, h.tape, h.output, h.size, fun k hk _ => h.block k hk⟩
theorem Bex.below {n m G : Nat} {a b : World} (h : Bex n G a b) (hm : m ≤ n) (hg : m ≤ G) : Below m a b := ⟨h.os, h.tape, h.output, h.size, fun k hk => h.block k (by omega) (by omega)⟩
theorem Bex.cell {n G : Nat} {a b : World} (h : Bex n G a b) {p : Addr} (h1 : p.block < n) (h2 : p.block ≠ G) : b.cell? p = a.cell? p := World.cell?_of_block (h.block p.block h1 h2)
theorem Bex.drewN {n G : Nat} {a b : World} (h : Bex n G a b) (m : Nat) : Bex n G a (b.drewN m) := ⟨h.os, h.tape, h.output, h.size, h.block⟩
theorem bexK_b {n₀ G : Nat} {w : World} (hn : n₀ ≤ w.heap.size) (W : World) (l : Nat) (o o' : Obj) (hl : w.heap.size ≤ l) (h : W.heap[l]? = some o) (h1 : o.isCells = false) (h2 : o.isWalk = false) : Bex n₀ G W (W.putObj l o') :=
  bex_of (belowK_b hn W l o o' hl h h1 h2)
theorem ownFrom_bex {β : Type} {n₀ G B : Nat} {w₀ : World} (hn : n₀ ≤ w₀.heap.size) (hB : n₀ ≤ B) : OwnFrom B (fun (_ : β) W => Bex n₀ G w₀ W) :=
  fun _ W W' row hs hg hr => ⟨hg.os.trans hs.os, hg.tape.trans hs.tape, hg.output.trans hs.output, Nat.le_trans hs.size hg.size, fun k hk h2 => (hg.block k (by have := hs.size; omega) (fun e => by have := (hr k e.symm).1; omega)).trans (hs.block k hk h2)⟩
set_option maxRecDepth 100000 in
set_option maxHeartbeats 2000000 in
theorem chunkX_in (F : Fence) (n : Nat) (h7 : F.fn 168) (hro : F.round = none) (hn : 1 ≤ n) (l B1 B2 n₀ G b off L cap k cnt : Nat) (hk : 1 ≤ k) (hk2 : k ≤ 1000) (hcn : L ≤ 1000000) (hL : Hid (L = cnt * k)) (hcap : L ≤ cap) (h1 : B1 < n₀) (h2 : B2 < n₀) (g1 : B1 ≠ G) (g2 : B2 ≠ G) (J Jx : List Nat → World → Prop)
    (hJ : Hid (∀ s W W' , J s W → Below W.heap.size W W' → J s W'))
    (hY : ∀ pre x W, J pre W → pre.length < cnt → x < cnt → YieldAt F (n - 1) Try.prog l #[chunkV b off k x] W fun e W' =>
      (e = .returned (.bool true) ∧ J (pre ++ [x]) W' ∧ Bex n₀ G W W') ∨ (e = .returned (.bool false) ∧ Jx (pre ++ [x]) W'))
    (W : World) (c1 : W.cell? ⟨B1, 0, none⟩ = some (.slice (some ⟨b, off, none⟩) L cap)) (c2 : W.cell? ⟨B2, 0, none⟩ = some (.int .i64 (k : Int))) (h0 : J [] W) :
    CallsIn F n Try.prog 168 #[.func (.yield l) #[] #[], .pointer (some ⟨B1, 0, none⟩), .pointer (some ⟨B2, 0, none⟩)] W fun e W' => (∃ v, e = .returned v) ∧
      ((∃ ys, ys = List.range cnt ∧ J ys W') ∨ (∃ pre, (∃ m, m ≤ cnt ∧ pre = List.range m) ∧ Jx pre W')) := by
  have C1 := Lib.hid c1
  have C2 := Lib.hid c2
  have HY := Lib.hid hY
  clear hY
  refine callsIn_of_wp Try.func168 rfl h7 ?_ hro
  simp only [Try.ntmps168, List.size_toArray, List.length_cons, List.length_nil, Nat.reduceAdd, Nat.reduceSub, Array.replicate_succ, Array.replicate_zero, List.push_toArray, List.append_toArray, List.nil_append, List.cons_append]
  gi_wp2
  clear c1 c2
  gi_loopw [4] (fun i wr => ∃ j m : Nat, j ≤ cnt ∧ i = .int .i64 (m : Int) ∧ Hid (m = j * k) ∧ J (List.range j) wr ∧ Bex n₀ G W wr)
    (fun i _ => L - (intOf i).toNat)
  case atStart => exact ⟨0, 0, Nat.zero_le _, rfl, Lib.hid (by simp), h0, Bex.refl _ _ _⟩
  case round =>
    obtain ⟨j, m, hj, rfl, hm, hJs, hnx⟩ := hrel
    have c1 := (hnx.cell (p := ⟨B1, 0, none⟩) h1 g1).trans C1.out
    have c2 := (hnx.cell (p := ⟨B2, 0, none⟩) h2 g2).trans C2.out
    have HJs := Lib.hid hJs
    have Hnx := Lib.hid hnx
    clear hJs hnx
    by_cases hlt : j < cnt
    · have hmk : m + k ≤ L := by
        rw [hm.out, hL.out, ← Nat.succ_mul]
        exact Nat.mul_le_mul_right k hlt
      have d1 : decide (m < L) = true := decide_eq_true (by omega)
      have hmin : min (k : Int) ((L - m : Nat) : Int) = (k : Int) := by omega
      have hmin2 : min (k : Int) ((L : Int) - (m : Int)) = (k : Int) := by omega
      have hcm : (cap = m) = False := eq_false (by omega)
      have hcm2 : m ≤ L := by omega
      have hnd : Bex n₀ G wr wr.drew := (Bex.refl _ _ wr).drewN 1
      obtain ⟨fn, tmps, assign, body, hy, hR⟩ := HY.out _ j wr.drew (hJ.out _ _ _ HJs.out ((Below.refl _ wr).drew)) (by rw [List.length_range]; exact hlt) hlt
      have hc' : chunkV b off k j = .slice (some ⟨b, off + m, none⟩) k k := by unfold chunkV; rw [← hm.out]
      rw [hc'] at hy
      have c1' : wr.drew.cell? ⟨B1, 0, none⟩ = _ := c1
      have HR := Lib.hid hR
      clear hR hc'
      gi_wp2
      gi_region
      all_goals
        gi_wp2
        refine HR.out.mono ?_
        rintro e W3 (⟨rfl, hJ3, hk3⟩ | ⟨rfl, hJx3⟩)
        · have c4 := (hk3.cell (p := ⟨B2, 0, none⟩) h2 g2).trans c2
          have HJ3 := Lib.hid hJ3
          have Hk3 := Lib.hid hk3
          clear hJ3 hk3
          gi_wp2
          go_roundw
          case rel => exact ⟨j + 1, m + k, by omega, by go_num, Lib.hid (by rw [hm.out, Nat.succ_mul]), by rw [List.range_succ]; exact HJ3.out, Hnx.out.trans (hnd.trans Hk3.out)⟩
          case measure => simp [intOf]; omega
        · have HJx3 := Lib.hid hJx3
          clear hJx3
          gi_wp2
          refine bodyPost_ret (results_none rfl _ _ _) rfl ?_
          exact ⟨⟨_, rfl⟩, .inr ⟨_, ⟨j + 1, by omega, by rw [List.range_succ]⟩, HJx3.out⟩⟩
    · obtain rfl : cnt = j := by omega
      obtain rfl : L = m := hL.out.trans hm.out.symm
      gi_wp2
      go_end0
      exact ⟨⟨_, rfl⟩, .inl ⟨_, rfl, HJs.out⟩⟩
theorem chunk_stopsX (B1 B2 n₀ G L cap k cnt : Nat) (p : Option Addr) (hk : 1 ≤ k) (hk2 : k ≤ 1000) (hcn : L ≤ 1000000) (hL : L = cnt * k) (hcap : L ≤ cap) (hp : ∃ b off, p = some ⟨b, off, none⟩) (w : World) (h1 : B1 < n₀) (h2 : B2 < n₀) (g1 : B1 ≠ G) (g2 : B2 ≠ G) (hn₀ : n₀ ≤ w.heap.size)
    (c1 : w.cell? ⟨B1, 0, none⟩ = some (.slice p L cap)) (c2 : w.cell? ⟨B2, 0, none⟩ = some (.int .i64 (k : Int))) (n : Nat) (hn : 1 ≤ n) :
    SeqStopsK Fence.wide n Try.prog 168 #[.pointer (some ⟨B1, 0, none⟩), .pointer (some ⟨B2, 0, none⟩)] (fun i : Fin cnt => #[.slice (partA p k i.1) k k]) (Bex n₀ G) (fun ys => ys.map Fin.val = List.range cnt) (fun pre => ∃ m, m ≤ cnt ∧ pre.map Fin.val = List.range m) cnt w := fun l J Jx W hW hJ _ hY h0 => by
  have e1 := (hW.cell (p := ⟨B1, 0, none⟩) (by show B1 < _; omega)).trans c1
  have e2 := (hW.cell (p := ⟨B2, 0, none⟩) (by show B2 < _; omega)).trans c2
  obtain ⟨b, off, rfl⟩ := hp
  refine (chunkX_in Fence.wide n trivial rfl hn l B1 B2 n₀ G b off L cap k cnt hk hk2 hcn (Lib.hid hL) hcap h1 h2 g1 g2 (fun s W' => ∃ l : List (Fin cnt), l.map Fin.val = s ∧ J l W') (fun s W' => ∃ l : List (Fin cnt), l.map Fin.val = s ∧ Jx l W')
    (Lib.hid fun s A B hs hb => by obtain ⟨l, e, hl⟩ := hs; exact ⟨l, e, hJ l A B none hl (gobI hb) (fun r e => by cases e)⟩)
    (fun pre x W1 hj hl hx => ?_) W e1 e2 ⟨[], rfl, h0⟩).mono ?_
  · obtain ⟨l, e, hl'⟩ := hj
    obtain ⟨fn, tmps, assign, body, hy, hR⟩ := hY l ⟨x, hx⟩ W1 hl' (by rw [← List.length_map (f := Fin.val), e]; exact hl)
    refine ⟨fn, tmps, assign, body, hy, hR.mono ?_⟩
    rintro e' W' (⟨a1, a2, a3⟩ | ⟨a1, a2⟩)
    · exact .inl ⟨a1, ⟨_, by rw [List.map_append, e]; rfl, a2⟩, a3⟩
    · exact .inr ⟨a1, _, by rw [List.map_append, e]; rfl, a2⟩
  · rintro e W' ⟨hv, ⟨ys, h3, l, e3, h4⟩ | ⟨pre, ⟨m, hm, h5⟩, l, e3, h4⟩⟩
    · exact ⟨hv, .inl ⟨l, e3.trans h3, h4⟩⟩
    · exact ⟨hv, .inr ⟨l, ⟨m, hm, e3.trans h5⟩, h4⟩⟩
end Go.Proofs.Ytodmaomngpnboaa
