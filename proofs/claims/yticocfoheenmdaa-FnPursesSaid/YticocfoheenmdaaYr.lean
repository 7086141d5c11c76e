/- Contracts: the library's Repeat, of one number. -/
import Derived.Test.YticocfoheenmdaaDb
import Derived.Laws.CopyOwn
import Derived.Laws.Bits64
import Derived.Deep.RegionLawGrows
import Derived.IntWalk
import Derived.Deep.Cut
set_option linter.unusedVariables false
namespace Go.Proofs.Yticocfoheenmdaa
open Go.RowKit

theorem and_low (c : Nat) (h : c < 4294967296) : bits .and .u64 (c : Int) 4294967295 = (c : Int) := by
  have h1 : (BitVec.ofInt 64 (c : Int)).toNat = c := by
    rw [BitVec.ofInt_natCast, BitVec.toNat_ofNat]; exact Nat.mod_eq_of_lt (by omega)
  have h2 : (BitVec.ofInt 64 (4294967295 : Int)).toNat = 4294967295 := by decide
  show IntKind.u64.wrap ((BitVec.ofInt 64 (c : Int) &&& BitVec.ofInt 64 (4294967295 : Int)).toNat : Int) = _
  have h3 : c &&& 4294967295 = c % 2 ^ 32 := Nat.and_two_pow_sub_one_eq_mod c 32
  rw [BitVec.toNat_and, h1, h2, h3, Nat.mod_eq_of_lt (by omega), IntKind.wrap_u64]
  omega
theorem mul64_any (c : Nat) (w : World) (hc : c ≤ 1000000) :
    Calls Try.prog 54 #[.int .u64 1, .int .u64 (c : Int)] w fun e w' => e = .returned (.tuple #[.int .u64 0, .int .u64 (c : Int)]) ∧ w = w' := by
  have e1 := and_low c (by omega)
  have e2 : bits .and .u64 1 4294967295 = 1 := by decide
  have e3 : bits .and .u64 0 4294967295 = 0 := by decide
  have e4 : (c : Int) / 4294967296 = 0 := Int.ediv_eq_zero_of_lt (by omega) (by omega)
  go_enter Try.func54, Try.ntmps54
  go_wp2
  go_ret2
  exact ⟨rfl, rfl⟩
theorem mul_any (c : Nat) (w : World) (hc : c ≤ 1000000) :
    Calls Try.prog 49 #[.int .u64 1, .int .u64 (c : Int)] w fun e w' => e = .returned (.tuple #[.int .u64 0, .int .u64 (c : Int)]) ∧ w = w' := by
  have H := Lib.hid (fun z => mul64_any c z hc)
  go_enter Try.func49, Try.ntmps49
  go_wp2_with (go_at_call 54; (refine (H.out _).mono ?_); rintro e w' ⟨rfl, rfl⟩)
  go_ret2
  exact ⟨rfl, rfl⟩

def repL (x : Int) (m n : Nat) : List Value := List.replicate m (.int .i64 x) ++ List.replicate (n - m) (.int .i64 0)
theorem repL_len (x : Int) (m n : Nat) (h : m ≤ n) : (repL x m n).length = n := by simp [repL]; omega
theorem repL_splice (x : Int) (m t n : Nat) (h : m + t ≤ n) : splice (repL x m n) m (List.replicate t (.int .i64 x)) = repL x (m + t) n := by
  unfold splice repL
  have h1 : (List.replicate m (Value.int .i64 x)).length = m := List.length_replicate
  rw [List.take_append_of_le_length (by omega), List.take_of_length_le (by omega), List.drop_append, List.length_replicate, List.drop_of_length_le (by simp), List.nil_append, h1, List.drop_replicate, ← List.append_assoc, List.replicate_append_replicate, show n - m - (m + t - m) = n - (m + t) by omega]
theorem repL_at (x : Int) (m n j : Nat) (h : j < m) : (repL x m n)[j]? = some (.int .i64 x) := by
  unfold repL
  rw [List.getElem?_append_left (by simpa using h), List.getElem?_replicate, if_pos h]
theorem one_ints (t : Nat) (x : Int) : ∀ u ∈ List.replicate t (Value.int .i64 x), u.oneCell' = true := by
  intro u hu
  rw [(List.mem_replicate.1 hu).2]; rfl
theorem cells_cell {w : World} {g : Nat} {cur : List Value} {t : TypeId} (h : w.heap[g]? = some (.cells cur.toArray t (0, 0))) (j : Nat) (u : Value) (hj : cur[j]? = some u) : w.cell? ⟨g, j, none⟩ = some u := by
  unfold World.cell?
  rw [h]
  simp [hj]
theorem sw_cells {w : World} {g c : Nat} {fs : List Int} {t : TypeId} (h : w.heap[g]? = some (.cells (fs.map (Value.int .i64)).toArray t (0, 0))) (hc : fs.length = c) (lo : Nat) (hlo : lo ≤ g) (hcm : c ≤ maxLen) : Sw (Value.int .i64) 0 w (.slice (some ⟨g, 0, none⟩) c c) fs lo w.heap.size := by
  refine Sw.of_owns (e := t) (n := c) ⟨by rw [List.length_map, hc, Nat.mul_one], .inr ⟨g, c, _, rfl, hlo, h, Nat.le_refl _, hcm, by simp [hc], ?_⟩⟩ hc
  rw [Nat.mul_one, List.take_of_length_le (by simp [hc])]
theorem madeCells1 (n : Nat) (z : Value) : (madeCells #[z] n).toList = List.replicate n z := made1 z n
theorem made_cells {w : World} {g n : Nat} {e : TypeId} {xs ys : List Value} (h : w.ownsRow g e 1 (.slice (some ⟨g, 0, none⟩) n n) n xs) (hy : ys = xs) : w.heap[g]? = some (.cells ys.toArray e (0, 0)) := by
  subst hy
  rcases h.2 with ⟨h', _⟩ | ⟨g', cap, cur, h1, h2, h3, h4, h5, h6, h7⟩
  · cases h'
  · cases h1
    rw [h3]
    congr
    rw [← h7, List.take_of_length_le (by simp; omega)]
set_option maxRecDepth 100000 in
set_option maxHeartbeats 1000000 in
theorem repeat_any (x : Int) (c : Nat) (v : Value) (w : World) (h1 : 1 ≤ c) (hc : c ≤ 1000) (h : Sl (Value.int .i64) 0 w v [x]) :
    Calls Try.prog 45 #[v, .int .i64 (c : Int)] w fun e w' => ∃ r, e = .returned r ∧ Sw (Value.int .i64) 0 w' r (List.replicate c x) w.heap.size w'.heap.size ∧ Below w.heap.size w w' := by
  obtain ⟨i0, hi, hz0, hz1, hz2⟩ := info_parts (show (Try.prog.info? 2).map (fun i => (i.zero, i.size, i.bytes)) = some (some (.int .i64 0), 1, 8) by kernel_rfl)
  obtain ⟨p, cap, rfl, hf⟩ := h
  obtain ⟨hcap, b, off, rfl, hbs, hcell⟩ := hf (by simp)
  have c0 := hcell 0 (by simp)
  rw [Nat.add_zero, show [x].getD 0 0 = x from rfl] at c0
  clear hf hcell
  have Hc0 := Lib.hid c0
  have Hm := Lib.hid (fun z => mul_any c z (by omega))
  have Hsp := Lib.hid (fun m t h => repL_splice x m t c h)
  have Hrl := Lib.hid (fun m h => repL_len x m c h)
  have Hat := Lib.hid (fun m j h => repL_at x m c j h)
  have Hfull : Hid (repL x c c = (List.replicate c x).map (Value.int .i64)) := Lib.hid (by unfold repL; rw [Nat.sub_self, List.replicate_zero, List.append_nil, List.map_replicate])
  have Hzero : Hid (repL x 0 c = List.replicate c (.int .i64 0)) := Lib.hid (by unfold repL; rfl)
  have d0 : decide ((c : Int) < 0) = false := decide_eq_false (by omega)
  have d9 : decide ((9223372036854775807 : Int) < (c : Int)) = false := decide_eq_false (by omega)
  go_enter Try.func45, Try.ntmps45
  go_upto_region 7 with (first | (go_at_call 49; (refine (Hm.out _).mono ?_); rintro e w' ⟨rfl, rfl⟩) | (at_make; refine wpList_make_full _ rfl _ _ 31 rfl w.heap.size 2 i0 (.int .i64 0) 1 (by kernel_rfl) hi hz0 hz1 .i64 .i64 c c c rfl rfl rfl rfl (by rw [hz2]; omega) (by unfold maxLen; omega) (Nat.le_refl _) ?_; intro w1 hown hgrow; have Hb1 := Lib.hid ((Below.refl _ w).grown hgrow (Nat.le_refl _) (by simp)); have Hg1 := Lib.hid (made_cells (ys := repL x 0 c) hown (by rw [Hzero.out, Nat.mul_one]; exact (made1 _ c).symm)); clear hown hgrow))
  have Hq1 : Hid ([Value.int .i64 x].length = Nat.min 1 c) := Lib.hid (Nat.min_eq_left h1).symm
  have Hq2 : Hid (∀ j u, [Value.int .i64 x][j]? = some u → w1.cell? ((⟨b, off, none⟩ : Addr).add j) = some u) := Lib.hid (fun j u hj => by
    cases j with
    | zero => simp at hj; subst hj; rw [Addr.add_lit, Nat.add_zero]; exact (Hb1.out.cell hbs).trans Hc0.out
    | succ j => simp at hj)
  have Hq3 : Hid (0 + [Value.int .i64 x].length ≤ (repL x 0 c).length) := Lib.hid (by rw [Hrl.out 0 (Nat.zero_le _)]; simp; omega)
  go_wp2_with (refine wpList_copy_splice (o := ⟨some 33, _, _, _, _, _⟩) rfl _ _ _ _ rfl 2 (by kernel_rfl) (by kernel_rfl) _ _ c c 1 cap rfl rfl w.heap.size 0 (repL x 0 c) 2 Hg1.out [Value.int .i64 x] Hq1.out (fun _ => ⟨rfl, _, rfl, Hq2.out⟩) Hq3.out (one_int _) w.heap.size w Hb1.out (Nat.le_refl _) ?_; intro w2 hg2 hb2; have Hg2 : Hid (w2.heap[w.heap.size]? = some (.cells (repL x 1 c).toArray 2 (0, 0))) := Lib.hid (by have h := hg2.out; rw [show [Value.int .i64 x] = List.replicate 1 (.int .i64 x) from rfl, Hsp.out 0 1 (by omega)] at h; exact h); have Hb2 := Lib.hid hb2; clear hg2 hb2)
  go_loopw [8] (fun m wr => ∃ k : Nat, 1 ≤ k ∧ k ≤ c ∧ m = .int .i64 (k : Int) ∧ Hid (wr.heap[w.heap.size]? = some (.cells (repL x k c).toArray 2 (0, 0))) ∧ Hid (Below w.heap.size w wr)) (fun m _ => c - (intOf m).toNat)
  case atStart => exact ⟨1, Nat.le_refl _, h1, rfl, Hg2, Hb2⟩
  case round =>
    obtain ⟨k, hk1, hkc, rfl, hg, hb⟩ := hrel
    by_cases hlt : k < c
    · obtain ⟨t, ht⟩ : ∃ t, t = Nat.min k (c - k) := ⟨_, rfl⟩
      have ht1 : 1 ≤ t := by rw [ht]; exact Nat.le_min.2 ⟨hk1, by omega⟩
      have ht2 : t ≤ k := by rw [ht]; exact Nat.min_le_left _ _
      have ht3 : k + t ≤ c := by have : t ≤ c - k := by rw [ht]; exact Nat.min_le_right _ _
                                 omega
      have Ht := Lib.hid ht
      have Hgd := Lib.hid hg.out
      clear ht
      have Hp2 : Hid (∀ j u, (List.replicate t (Value.int .i64 x))[j]? = some u → wr.cell? ((⟨w.heap.size, 0, none⟩ : Addr).add j) = some u) := Lib.hid (fun j u hj => by
        rw [Addr.add_lit, Nat.zero_add]
        refine cells_cell hg.out j u ?_
        rw [List.getElem?_replicate] at hj
        split at hj
        · rw [Hat.out k j (by omega)]; exact hj
        · cases hj)
      have Hp3 : Hid (k + (List.replicate t (Value.int .i64 x)).length ≤ (repL x k c).length) := Lib.hid (by rw [List.length_replicate, Hrl.out k hkc]; exact ht3)
      have Hp1 : Hid ((List.replicate t (Value.int .i64 x)).length = Nat.min k (c - k)) := Lib.hid (by rw [List.length_replicate]; exact Ht.out)
      have hck : (c = k) = False := eq_false (by omega)
      obtain ⟨W3, hrun, hg3, hb3⟩ : ∃ W3, (Builtin.copy_ #[31, 31] 3 #[.slice (some ⟨w.heap.size, k, none⟩) (c - k) (c - k), .slice (some ⟨w.heap.size, 0, none⟩) k c]).run Try.prog wr.drew = .ok (.int .i64 (t : Int)) W3 ∧ Hid (W3.heap[w.heap.size]? = some (.cells (repL x (k + t) c).toArray 2 (0, 0))) ∧ Hid (Below w.heap.size w W3) := by
        have hr := run_copy_row Try.prog wr.drew 31 31 3 2 w.heap.size k (c - k) (c - k) ⟨w.heap.size, 0, none⟩ k c (repL x k c).toArray 2 (List.replicate t (Value.int .i64 x)) (by kernel_rfl) (by kernel_rfl) hg.out Hp1.out Hp2.out (by simpa using Hp3.out) (one_ints _ _)
        rw [List.length_replicate] at hr
        refine ⟨_, hr, ?_, ?_⟩
        · refine Lib.hid ((setRow_heap wr.drew w.heap.size _ _ 2 (0, 0) hg.out).trans ?_)
          have hs := Hsp.out k t ht3
          unfold splice at hs
          rw [← hs]
          simp
        · exact Lib.hid (below_setRow (show Below w.heap.size w wr.drew from below_drewN hb.out 1) (Nat.le_refl _) _)
      go_wp2_with fail
      go_region
      all_goals
        go_wp2
        go_roundw
        case rel => exact ⟨k + t, by omega, by omega, by go_num, hg3, hb3⟩
        case measure => simp [intOf]; omega
    · obtain rfl : k = c := by omega
      go_wp2
      go_ret
      refine ⟨_, rfl, sw_cells (t := 2) (by rw [← Hfull.out]; exact hg.out) (List.length_replicate) _ (Nat.le_refl _) (by unfold maxLen; omega), hb.out⟩
end Go.Proofs.Yticocfoheenmdaa
