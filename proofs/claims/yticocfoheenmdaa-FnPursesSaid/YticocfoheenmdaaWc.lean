/- Contracts: overlaps, borders, leads, parts of words, in both texts. -/
import Derived.Test.YticocfoheenmdaaWb
import Derived.Test.YticocfoheenmdaaDc
import Derived.BigQuiet
import Derived.Lib.MinMax
set_option linter.unusedVariables false
namespace Go.Proofs.Yticocfoheenmdaa
open Go.RowKit

theorem part_end {w : World} {b off n cap : Nat} {fs : List Int} (h : Sl (Value.int .i64) 0 w (.slice (some ⟨b, off, none⟩) n cap) fs) (hn : fs.length = n) (hcap : n ≤ cap) (k : Nat) (hk : k ≤ n) :
    Sl (Value.int .i64) 0 w (.slice (some ⟨b, off + (n - k), none⟩) (n - (n - k)) (cap - (n - k))) (fs.drop (n - k)) := by
  have := h.part (n - k) (n - (n - k)) (cap - (n - k)) (by omega) (by omega)
  rwa [List.take_of_length_le (by simp; omega)] at this
theorem own_add {w : World} {base : Nat} {e : TypeId} {v : Value} {l : List Int} {x : Int} (h : w.ownsRow base e 1 v (l.length + 1) (l.map (Value.int .i64) ++ [.int .i64 x])) : w.ownsRow base e 1 v (l ++ [x]).length ((l ++ [x]).map (Value.int .i64)) := by
  rw [List.length_append, List.map_append]; exact h
set_option maxRecDepth 100000 in
set_option maxHeartbeats 2000000 in
theorem overlaps_any (fs gs : List Int) (v u : Value) (w : World) (hn : fs.length ≤ 1000) (hm : gs.length ≤ 1000) (h : Sl (Value.int .i64) 0 w v fs) (g : Sl (Value.int .i64) 0 w u gs) :
    Calls Try.prog 55 #[v, u] w fun e w' => ∃ r, e = .returned r ∧ Sw (Value.int .i64) 0 w' r (overL fs gs (min fs.length gs.length)) w.heap.size w'.heap.size ∧ Below w.heap.size w w' := by
  obtain ⟨i0, hi, hz0, hz1, hz2⟩ := info_parts (show (Try.prog.info? 2).map (fun i => (i.zero, i.size, i.bytes)) = some (some (.int .i64 0), 1, 8) by kernel_rfl)
  have HA := Lib.hid h
  have HB := Lib.hid g
  obtain ⟨p, cap, rfl, hf⟩ := h
  obtain ⟨q, cap', rfl, hg⟩ := g
  have Hf := Lib.hid hf
  have Hg := Lib.hid hg
  clear hf hg
  obtain ⟨n, hn1⟩ : ∃ n, n = fs.length := ⟨_, rfl⟩
  obtain ⟨m, hm1⟩ : ∃ n, n = gs.length := ⟨_, rfl⟩
  have Hn := Lib.hid hn1
  have Hm := Lib.hid hm1
  rw [← hn1] at hn Hf HA ⊢
  rw [← hm1] at hm Hg HB ⊢
  clear hn1 hm1
  have hmin : min (n : Int) (m : Int) = ((min n m : Nat) : Int) := by omega
  have hM1 : min n m ≤ n := Nat.min_le_left _ _
  have hM2 : min n m ≤ m := Nat.min_le_right _ _
  generalize min n m = M at *
  have Ho := Lib.hid (fun k => overL_len fs gs k)
  go_enter Try.func55, Try.ntmps55
  go_wp2
  go_loopw [5, 6] (fun out i wr => ∃ k : Nat, k ≤ M ∧ i = .int .i64 ((k : Int) + 1) ∧ wr.ownsRow w.heap.size 2 1 out (overL fs gs k).length ((overL fs gs k).map (Value.int .i64)) ∧ Below w.heap.size w wr) (fun _ i _ => M + 1 - (intOf i).toNat)
  case atStart => exact ⟨0, Nat.zero_le _, by go_num, World.ownsRow_nil _ _ _ _, Below.refl _ _⟩
  case round =>
    obtain ⟨k, hk, rfl, hown, hb⟩ := hrel
    have Hown := Lib.hid hown
    have Hb := Lib.hid hb
    have hsz := hb.size
    have hol := Ho.out k
    clear hown hb
    by_cases hlt : k < M
    · obtain ⟨hcap, b, off, rfl, hbs, hc⟩ := Hf.out (by omega)
      obtain ⟨hcap', b', off', rfl, hbs', hc'⟩ := Hg.out (by omega)
      clear hc hc'
      have Hh := Lib.hid (fun q => eqS_any (fs.drop (n - (k + 1))) (gs.take (k + 1)) _ _ (wr.drewN q) (by simp; have := Hn.out; omega) (by simp; have := Hm.out; omega) (((part_end HA.out Hn.out.symm hcap (k + 1) (by omega)).later Hb.out).drewN q) (((HB.out.take (k + 1) (by have := Hm.out; omega) cap' (by omega)).later Hb.out).drewN q))
      have hE : endsB fs gs (k + 1) = decide (fs.drop (n - (k + 1)) = gs.take (k + 1)) := by rw [endsB_of (by have := Hn.out; omega) (by have := Hm.out; omega), ← Hn.out]
      rw [← hE] at Hh
      clear hE
      cases he : endsB fs gs (k + 1)
      · rw [he] at Hh
        have Hno := Lib.hid (overL_no he)
        clear he
        go_wp2
        go_quiet ((go_at_call 56; exact Calls.quiet_of (Hh.out _)))
        go_wp2
        go_roundw
        case rel => exact ⟨k + 1, by omega, by go_num, by have hx := Hown.out; rw [Hno.out]; exact hx, below_drewN Hb.out _⟩
        case measure => simp [intOf]; omega
      · rw [he] at Hh
        have Hyes := Lib.hid (overL_yes he)
        clear he
        go_wp2
        go_quiet ((go_at_call 56; exact Calls.quiet_of (Hh.out _)))
        rename_i nq
        have Hown1 : Hid ((wr.drewN nq).ownsRow w.heap.size 2 1 _ (overL fs gs k).length ((overL fs gs k).map (Value.int .i64))) := Lib.hid Hown.out
        go_wp2_with (at_builtin; refine wpList_append_own _ rfl _ _ 31 rfl w.heap.size 2 i0 (.int .i64 0) 1 8 (by kernel_rfl) hi hz0 hz1 hz2 rfl (by decide) _ _ _ rfl (Hown1.out.alloc _) ⟨(wr.drewN nq).heap.size, 0, none⟩ 1 1 [.int .i64 ((k : Int) + 1)] rfl rfl (cell_one_new _ _ _) (one_int _) (by unfold maxLen; omega) (by omega) (by simp; omega) ?_; intro v2 w2 hown2 hgrow2 _)
        have Hown2 := Lib.hid (own_add hown2)
        have Hb2 := Lib.hid (((below_drewN Hb.out nq).alloc (by simp; omega) _).grown hgrow2 (by simp; omega) (fun b hb => (Hown.out.lt b hb).1))
        clear hown2 hgrow2
        go_wp2
        go_roundw
        case rel => exact ⟨k + 1, by omega, by go_num, by rw [Hyes.out]; exact Hown2.out, Hb2.out⟩
        case measure => simp [intOf]; omega
    · obtain rfl : k = M := by omega
      go_wp2
      go_ret
      exact ⟨_, rfl, Sw.of_owns Hown.out rfl, Hb.out⟩
end Go.Proofs.Yticocfoheenmdaa
