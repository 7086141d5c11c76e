/- Contracts: IsPaired, the program. -/
import Derived.Test.YtolmhnekfokpdacItE
import Derived.Test.YtolmhnekfokpdacDc
import Derived.Outline
set_option linter.unusedVariables false
namespace Go.Proofs.Ytolmhnekfokpdac
open Go.RowKit Go.Shelf
attribute [local go_sem] Oper.semAt_some

def pairG (fs : List Int) (k i : Nat) : Bool := ordB (tab k (kindG fs k i))
set_option maxRecDepth 100000 in
set_option maxHeartbeats 4000000 in
theorem paired_in (fs : List Int) (k cnt b off cap : Nat) (w : World) (hk : 1 ≤ k) (hk2 : k ≤ 52) (hd : deckB fs = true) (hf : fs.length = cnt * k) (hcap : fs.length ≤ cap) (h : Sl (Value.int .i64) 0 w (.slice (some ⟨b, off, none⟩) fs.length cap) fs) :
    CallsIn Fence.wide 3 Try.prog 33 #[.slice (some ⟨b, off, none⟩) fs.length cap, .int .i64 (k : Int)] w fun e w' => e = .returned (.tuple #[.bool ((List.range cnt).all (pairG fs k)), .bool true]) ∧ Below w.heap.size w w' := by
  obtain ⟨l1, l2, -⟩ := deckB_len hd
  have hbd := deckB_bd hd
  have HD := Lib.hid (fun z (hz : Below w.heap.size w z) => deckI_yes fs _ z (by omega) (h.later hz) hd)
  have HS := Lib.hid h
  have HC := Lib.hid (fun (z : World) (hz : Below w.heap.size w z) (j : Nat) (hj : j < fs.length) => by
    obtain ⟨p', cap', e, h'⟩ := h.later hz
    obtain ⟨-, b', off', e2, -, hcs⟩ := h' (by omega)
    cases e
    cases e2
    exact (hcs j hj : z.cell? ⟨b, off + j, none⟩ = some (.int .i64 (fs.getD j 0))))
  obtain ⟨L, hL⟩ : ∃ L, L = fs.length := ⟨_, rfl⟩
  have HL := Lib.hid (hL.trans hf)
  have HLf := Lib.hid hL
  have Hbd := Lib.hid hbd
  rw [← hL] at l1 l2 hcap HD HS HC ⊢
  have hqv : (L : Int) % (k : Int) = 0 := by rw [hL, hf]; simp
  have dz : ((k : Int) = 0) = False := eq_false (by omega)
  have dk : decide ((k : Int) < 1) = false := decide_eq_false (by omega)
  have hro : Fence.wide.round = none := rfl
  have hall : (∀ i, i < cnt → pairG fs k i = true) → (List.range cnt).all (pairG fs k) = true := fun h => by
    rw [List.all_eq_true]; intro i hi; exact h i (List.mem_range.1 hi)
  have hany : ∀ x : Fin cnt, pairG fs k x.1 = false → (List.range cnt).all (pairG fs k) = false := fun x h => by
    rw [List.all_eq_false]; exact ⟨x.1, List.mem_range.2 x.2, by rw [h]; simp⟩
  clear hL hf h hbd
  obtain ⟨w0, hw0⟩ : ∃ z, z = ((w.alloc (.cells #[.int .i64 (k : Int)] 2)).alloc (.cells #[.bool false] 4)).alloc (.cells #[.bool false] 4) := ⟨_, rfl⟩
  have hb0 : Below w.heap.size w w0 := by rw [hw0]; exact (((Below.refl _ w).alloc (Nat.le_refl _) _).alloc (by simp) _).alloc (by simp; omega) _
  have hz0 : w0.heap.size = w.heap.size + 3 := by rw [hw0]; simp
  have bK : Boxed w0 w.heap.size 2 (.int .i64 (k : Int)) := by rw [hw0]; exact ((Boxed.new w _ _).alloc _).alloc _
  have b1 : Boxed w0 (w.heap.size + 1) 4 (.bool false) := by
    have := (Boxed.new (w.alloc (.cells #[.int .i64 (k : Int)] 2)) 4 (.bool false)).alloc (.cells #[.bool false] 4)
    rw [World.size_alloc] at this
    rw [hw0]; exact this
  have b2 : Boxed w0 (w.heap.size + 1 + 1) 4 (.bool false) := by
    have := Boxed.new ((w.alloc (.cells #[.int .i64 (k : Int)] 2)).alloc (.cells #[.bool false] 4)) 4 (.bool false)
    rw [World.size_alloc, World.size_alloc] at this
    rw [hw0]; exact this
  refine callsIn_of_wp_marks Try.func33 rfl trivial ?_ hro
  simp only [Try.ntmps33, List.size_toArray, List.length_cons, List.length_nil, Nat.reduceAdd, Nat.reduceSub, Array.replicate_succ, Array.replicate_zero, List.push_toArray, List.append_toArray, List.nil_append, List.cons_append]
  have cK := bK.cell
  have HD1 := Lib.hid (HD.out w0 hb0)
  rw [hw0] at cK
  gi_wp2
  refine ⟨trivial, ?_⟩
  rw [← hw0]
  refine (callsIn_wide.2 HD1.out).mono ?_
  rintro e w1 ⟨rfl, hb1⟩
  have bK1 := bK.kept (row := none) ⟨hb1.os, hb1.tape, hb1.output, hb1.size, fun i hi _ => hb1.block i hi⟩ (by simp)
  have b11 := b1.kept (row := none) ⟨hb1.os, hb1.tape, hb1.output, hb1.size, fun i hi _ => hb1.block i hi⟩ (by simp)
  have b21 := b2.kept (row := none) ⟨hb1.os, hb1.tape, hb1.output, hb1.size, fun i hi _ => hb1.block i hi⟩ (by simp)
  have hz1 := hb1.size
  have Hb1 := Lib.hid (hb0.trans (hb1.mono (by omega)))
  have cK1 := bK1.cell
  clear cK hb1 bK b1 b2
  gi_wp2
  refine ⟨trivial, ?_⟩
  refine (callsIn_wide.2 (chunk_made _ _ L cap k _ hk (by omega) rfl)).mono ?_
  rintro e W0 ⟨rfl, hW0⟩
  gi_wp2
  have bK2 := (bK1.alloc (.cells #[.slice (some ⟨b, off, none⟩) L cap] 22)).alloc (.cells #[.int .i64 (k : Int)] 3)
  have b12 := (b11.alloc (.cells #[.slice (some ⟨b, off, none⟩) L cap] 22)).alloc (.cells #[.int .i64 (k : Int)] 3)
  have b22 := (b21.alloc (.cells #[.slice (some ⟨b, off, none⟩) L cap] 22)).alloc (.cells #[.int .i64 (k : Int)] 3)
  have hbW : Below w1.heap.size w1 W0 := by rw [hW0]; exact ((Below.refl _ _).alloc (Nat.le_refl _) _).alloc (by simp) _
  have hzW : W0.heap.size = w1.heap.size + 2 := by rw [hW0]; simp
  have q1 : W0.cell? ⟨w1.heap.size, 0, none⟩ = some (.slice (some ⟨b, off, none⟩) L cap) := by
    rw [hW0, World.cell?_alloc_past _ _ _ (by simp)]; exact World.cell?_alloc_at _ _ _ _ rfl
  have q2 : W0.cell? ⟨w1.heap.size + 1, 0, none⟩ = some (.int .i64 (k : Int)) := by rw [hW0]; exact World.cell?_alloc_at _ _ _ _ (by simp)
  rw [← hW0] at bK2 b12 b22 ⊢
  have HbW := Hb1.out.trans (hbW.mono Hb1.out.size)
  clear hW0 bK1 b11 b21 cK1 hbW
  refine wpIn_rangeFunc_ownH hro (by omega) (gf := 141) (lb := #[.pointer (some ⟨w1.heap.size, 0, none⟩), .pointer (some ⟨w1.heap.size + 1, 0, none⟩)]) rfl trivial (run_enter Try.func141 (by kernel_rfl) (by kernel_rfl))
    (chunk_stopsF w1.heap.size (w1.heap.size + 1) W0.heap.size L cap k cnt (some ⟨b, off, none⟩) hk (by omega) (by omega) HL.out (by omega) ⟨b, off, rfl⟩ W0 (by omega) (by omega) (Nat.le_refl _) q1 q2 2 (by omega)) belowK_t (belowK_b (Nat.le_refl _)) (Below.refl _ _) (fun _ => rfl)
    (fun (pre : List (Fin cnt)) W => (∀ x ∈ pre, pairG fs k x.1 = true) ∧ Below W0.heap.size W0 W)
    (fun c (pre : List (Fin cnt)) W => (((c = .ret ∧ ∃ x ∈ pre, pairG fs k x.1 = false) ∧ Boxed W (w.heap.size + 1) 4 (.bool false)) ∧ Boxed W (w.heap.size + 1 + 1) 4 (.bool true)) ∧ Below w.heap.size w W)
    (OwnFrom.and (ownFrom_pure _ _) (ownFrom_below (Nat.le_refl _) (Nat.le_refl _)))
    (fun c => OwnFrom.and (OwnFrom.and (OwnFrom.and (ownFrom_pure _ _) (Own.from (boxed_own _ _ _) _)) (Own.from (boxed_own _ _ _) _)) (ownFrom_below (Nat.le_refl _) (by omega)))
    ⟨by simp, Below.refl _ _⟩
    (fun (x : Fin cnt) a' W => ∃ Bx, W0.heap.size ≤ Bx ∧ Boxed W Bx 22 (.slice (partA (some ⟨b, off, none⟩) k x.1) k k) ∧ a' = { tmps := #[.slice (some ⟨b, off, none⟩) L cap, .int .i64 (k : Int), undef, .pointer (some ⟨w.heap.size, 0, none⟩), .pointer (some ⟨w.heap.size + 1, 0, none⟩), .pointer (some ⟨w.heap.size + 1 + 1, 0, none⟩), .pointer (some ⟨Bx, 0, none⟩), .slice (some ⟨b, off, none⟩) L cap, .bool true, .bool false, .bool false, .int .i64 (k : Int), .bool false, .bool false, .bool false, .slice (some ⟨b, off, none⟩) L cap, .int .i64 (L : Int), .int .i64 (k : Int), .int .i64 0, .bool false, .bool false, .slice (some ⟨b, off, none⟩) L cap, .int .i64 (k : Int), .func (.func 141) #[] #[.pointer (some ⟨w1.heap.size, 0, none⟩), .pointer (some ⟨w1.heap.size + 1, 0, none⟩)], .slice (partA (some ⟨b, off, none⟩) k x.1) k k, undef, undef, undef, undef, undef, undef], defers := [] })
    (fun x a' _ X Y row hs hg hr => by obtain ⟨Bx, h1, h2, h3⟩ := hs; exact ⟨Bx, h1, boxed_own Bx 22 (fun (_ : Unit) => Value.slice (partA (some ⟨b, off, none⟩) k x.1) k k) () X Y row h2 hg (fun r e => (hr r e).2), h3⟩)
    ?assign ?body ?done ?stop
  case assign =>
    rintro l pre x W K ⟨hp, hB⟩ hK
    gi_wp2
    exact hK _ _ ((KeepsOthers.alloc _ _).from _) ((Below.refl _ W).alloc hB.size _) ⟨hp, hB.alloc hB.size _⟩ ⟨W.heap.size, hB.size, Boxed.new W 22 _, rfl⟩
  case body =>
    rintro l pre x a' W hl ⟨r, hr⟩ ⟨hp, hB⟩ ⟨Bx, hBx, bX, rfl⟩ hlt
    have hsz := hB.size
    have hx := x.2
    have hHL := HL.out
    have hxk : x.1 * k + k ≤ L := by
      have : (x.1 + 1) * k ≤ cnt * k := Nat.mul_le_mul_right k hx
      rw [Nat.add_mul, Nat.one_mul] at this
      omega
    have cX := bX.cell
    have cK := (hB.cell (p := ⟨w.heap.size, 0, none⟩) bK2.lt).trans bK2.cell
    have c1W := bX.lt
    have HG := Lib.hid (fun (m : Nat) (W' : World) (hm : m < k) (hb : Below W.heap.size W W') => by
      have e := HC.out W' ((HbW.trans (hB.mono (by have := HbW.size; omega))).trans (hb.mono (by have := HbW.size; omega))) (x.1 * k + m) (by omega)
      exact clo_pair k m b (off + x.1 * k) Bx w.heap.size (fs.getD (x.1 * k + m) 0) W' hk hk2 hm (by have h4 := HLf.out; have h3 := Hbd.out (x.1 * k + m) (by omega); omega) ((hb.cell (p := ⟨Bx, 0, none⟩) bX.lt).trans cX) ((hb.cell (p := ⟨w.heap.size, 0, none⟩) (by have := bK2.lt; show w.heap.size < W.heap.size; omega)).trans cK) (by rw [Nat.add_assoc]; exact e))
    have b1W : Boxed W (w.heap.size + 1) 4 (.bool false) := b12.kept (row := none) ⟨hB.os, hB.tape, hB.output, hB.size, fun i hi _ => hB.block i hi⟩ (by simp)
    have b2W : Boxed W (w.heap.size + 1 + 1) 4 (.bool false) := b22.kept (row := none) ⟨hB.os, hB.tape, hB.output, hB.size, fun i hi _ => hB.block i hi⟩ (by simp)
    have hzz := HbW.size
    gi_wp2
    refine ⟨trivial, ?_⟩
    refine (CallsIn.inRound l (callsIn_wide.2 (deckBy_any k 98 #[.pointer (some ⟨Bx, 0, none⟩), .pointer (some ⟨w.heap.size, 0, none⟩)] (kindG fs k x.1) W (by omega) (fun args z => run_enter Try.func98 (by kernel_rfl) (by kernel_rfl) args z) (fun m W' hm hb => HG.out m W' hm hb)))).mono ?_
    rintro e W1 ⟨v, rfl, hv, hb1⟩
    have hsz1 := hb1.size
    gi_wp2
    refine ⟨trivial, ?_⟩
    refine (CallsIn.inRound l (callsIn_wide.2 (order_any (tab k (kindG fs k x.1)) v W1 (by rw [tab_len]; omega) hv.sl))).mono ?_
    rintro e W2 ⟨rfl, hb2⟩
    have hb3 : Below W.heap.size W W2 := hb1.trans (hb2.mono hsz1)
    have hsz3 := hb3.size
    have kf : KeepsFrom W0.heap.size W W2 := ⟨hb3.size, fun j o _ hj _ => (hb3.block j (Array.getElem?_eq_some_iff.1 hj).1).trans hj⟩
    cases hor : ordB (tab k (kindG fs k x.1))
    · have bN1 := b1W.kept (row := none) ⟨hb3.os, hb3.tape, hb3.output, hb3.size, fun i hi _ => hb3.block i hi⟩ (by simp)
      have bN2 := b2W.kept (row := none) ⟨hb3.os, hb3.tape, hb3.output, hb3.size, fun i hi _ => hb3.block i hi⟩ (by simp)
      have f1 := bN1.frozen
      have f2 := bN2.frozen
      have e1 := bN1.cell
      have e2 := bN2.cell
      gi_wp2
      exact ⟨(kf.trans ((KeepsOthers.setCell _ _ _).from _)).trans ((KeepsOthers.setCell _ _ _).from _), ⟨⟨⟨rfl, x, List.mem_append.2 (.inr (by simp)), hor⟩, (bN1.set _).other (by simp) _⟩, (bN2.other (by simp) _).set _⟩, (((HbW.trans (hB.mono hzz)).trans (hb3.mono (by omega))).setCell (p := ⟨w.heap.size + 1, 0, none⟩) (by simp) _).setCell (p := ⟨w.heap.size + 1 + 1, 0, none⟩) (by simp; omega) _⟩
    · gi_wp2
      exact ⟨kf, hb3.mono hsz, fun z hz => (List.mem_append.1 hz).elim (hp z) (fun e => by rw [List.mem_singleton] at e; subst e; exact hor), hB.trans (hb3.mono hsz)⟩
  case done =>
    rintro D zs W hD hzs ⟨hp, hB⟩ hK
    have hzz := HbW.size
    have b1W : Boxed W (w.heap.size + 1) 4 (.bool false) := b12.kept (row := none) ⟨hB.os, hB.tape, hB.output, hB.size, fun i hi _ => hB.block i hi⟩ (by simp)
    have b2W : Boxed W (w.heap.size + 1 + 1) 4 (.bool false) := b22.kept (row := none) ⟨hB.os, hB.tape, hB.output, hB.size, fun i hi _ => hB.block i hi⟩ (by simp)
    have f1 := b1W.frozen
    have f2 := b2W.frozen
    have e1 := b1W.cell
    have e2 := b2W.cell
    gi_wp2
    have hK' := (KeepsOthers.setCell (W.setCell ⟨w.heap.size + 1, 0, none⟩ (.bool true)) ⟨w.heap.size + 1 + 1, 0, none⟩ (.bool true)).same D _ ((KeepsOthers.setCell W ⟨w.heap.size + 1, 0, none⟩ (.bool true)).same D _ hK rfl) rfl
    refine ⟨by simp, .inl ⟨_, _, rfl, run_takeDeferred hK', ?_⟩⟩
    have hc5 := cell_kept ((b1W.set (.bool true)).other (B' := w.heap.size + 1 + 1) (by simp) (.bool true)).cell (grownBy_putObj' _ D (.deferred none)) (fun r e => by cases e; exact ⟨_, hK', rfl⟩)
    have hc6 := cell_kept ((b2W.other (B' := w.heap.size + 1) (by simp) (.bool true)).set (.bool true)).cell (grownBy_putObj' _ D (.deferred none)) (fun r e => by cases e; exact ⟨_, hK', rfl⟩)
    refine ⟨.tuple #[.bool true, .bool true], ?_, ⟨by rw [hall (fun i hi => by have hm : i ∈ List.map Fin.val zs := by { rw [hzs]; exact List.mem_range.2 hi }; obtain ⟨x, hx, rfl⟩ := List.mem_map.1 hm; exact hp x hx)], ((HbW.trans (hB.mono hzz)).setCell (p := ⟨w.heap.size + 1, 0, none⟩) (by simp) _ |>.setCell (p := ⟨w.heap.size + 1 + 1, 0, none⟩) (by simp; omega) _).trans (belowK_b (w := w) (Nat.le_refl _) _ D _ _ (by omega) hK' rfl rfl)⟩⟩
    simp [results, Try.f33, go_sem, hc5, hc6]
  case stop =>
    rintro D c pre W hD hpre ⟨⟨⟨⟨rfl, x, hx, hy⟩, bR1⟩, bR2⟩, hB1⟩ hK
    have hzz := HbW.size
    gi_wp2
    refine ⟨by simp, .inl ⟨_, _, rfl, run_takeDeferred hK, ?_⟩⟩
    have hc5 := cell_kept bR1.cell (grownBy_putObj' _ D (.deferred none)) (fun r e => by cases e; exact ⟨_, hK, rfl⟩)
    have hc6 := cell_kept bR2.cell (grownBy_putObj' _ D (.deferred none)) (fun r e => by cases e; exact ⟨_, hK, rfl⟩)
    refine ⟨.tuple #[.bool false, .bool true], ?_, ⟨by rw [hany x hy], hB1.trans (belowK_b (w := w) (Nat.le_refl _) W D _ _ (by omega) hK rfl rfl)⟩⟩
    simp [results, Try.f33, go_sem, hc5, hc6]
end Go.Proofs.Ytolmhnekfokpdac
