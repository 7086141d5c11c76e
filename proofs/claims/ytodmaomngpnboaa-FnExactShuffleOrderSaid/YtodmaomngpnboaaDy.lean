/- Contracts: perfect shuffles in the model's text. -/
import Derived.Test.YtodmaomngpnboaaDx
import Derived.Deep.RegionHeld3
import Derived.WalkSpells
import Derived.StillTactics
set_option linter.unusedVariables false
namespace Go.Proofs.Ytodmaomngpnboaa
open Go.RowKit

theorem own_ne {w : World} {base : Nat} {e : TypeId} {size : Nat} {v : Value} {n b : Nat} {xs : List Value} (h : w.ownsRow base e size v n xs) (hb : b < base) : v.ownBlock ≠ some b := fun e => absurd (h.lt b e).1 (by omega)
theorem two_new (w : World) (x y : Value) (t : TypeId) : ∀ j u, [x, y][j]? = some u → (w.alloc (.cells #[x, y] t)).cell? ((⟨w.heap.size, 0, none⟩ : Addr).add j) = some u := by
  intro j u hu
  rw [Addr.add_lit, Nat.zero_add, World.cell?_alloc_at _ _ _ _ rfl]
  match j, hu with
  | 0, hu => simpa using hu
  | 1, hu => simpa using hu
theorem two_int (x y : Int) : ∀ u ∈ [Value.int .i64 x, Value.int .i64 y], u.oneCell' = true := by
  intro u hu
  simp only [List.mem_cons, List.not_mem_nil, or_false] at hu
  rcases hu with rfl | rfl <;> rfl
theorem own_two {w : World} {base : Nat} {e : TypeId} {v : Value} {k : Nat} {g : Nat → Int} {x y : Int} (h : w.ownsRow base e 1 v (2 * k + 2) ((tab (2 * k) g).map (Value.int .i64) ++ [.int .i64 x, .int .i64 y])) (hx : g (2 * k) = x) (hy : g (2 * k + 1) = y) : w.ownsRow base e 1 v (2 * (k + 1)) ((tab (2 * (k + 1)) g).map (Value.int .i64)) := by
  rw [show 2 * (k + 1) = 2 * k + 1 + 1 by omega, tab_succ, tab_succ, List.map_append, List.map_append, List.append_assoc, hx, hy]
  exact h
theorem perf_t (fs : List Int) (k : Nat) : perfG fs true (2 * k) = fs.getD (fs.length / 2 + k) 0 ∧ perfG fs true (2 * k + 1) = fs.getD k 0 := by
  constructor
  · rw [perfG_hi fs true (2 * k) (by rw [decide_eq_false (by omega)]; rfl), show 2 * k / 2 = k by omega]
  · rw [perfG_lo fs true (2 * k + 1) (by rw [decide_eq_true (by omega)]; rfl), show (2 * k + 1) / 2 = k by omega]
theorem perf_f (fs : List Int) (k : Nat) : perfG fs false (2 * k) = fs.getD k 0 ∧ perfG fs false (2 * k + 1) = fs.getD (fs.length / 2 + k) 0 := by
  constructor
  · rw [perfG_lo fs false (2 * k) (by rw [decide_eq_false (by omega)]; rfl), show 2 * k / 2 = k by omega]
  · rw [perfG_hi fs false (2 * k + 1) (by rw [decide_eq_true (by omega)]; rfl), show (2 * k + 1) / 2 = k by omega]

set_option maxHeartbeats 2000000 in
theorem perfect_any (fs : List Int) (v : Value) (b : Bool) (w : World) (hn : fs.length ≤ 1048576) (he : fs.length % 2 = 0) (h : Sl (Value.int .i64) 0 w v fs) :
    Calls Try.prog 120 #[v, .bool b] w fun e w' => ∃ r, e = .returned r ∧ Sw (Value.int .i64) 0 w' r (tab fs.length (perfG fs b)) w.heap.size w'.heap.size ∧ Below w.heap.size w w' := by
  obtain ⟨p, cap, rfl, hf⟩ := h
  have Hf := Lib.hid hf
  clear hf
  obtain ⟨i0, hi, hz0, hz1, hz2⟩ := info_parts (show (Try.prog.info? 2).map (fun i => (i.zero, i.size, i.bytes)) = some (some (.int .i64 0), 1, 8) by kernel_rfl)
  have Hpt := Lib.hid (perf_t fs)
  have Hpf := Lib.hid (perf_f fs)
  generalize hlen : fs.length = n at *
  obtain ⟨m, rfl⟩ : ∃ m, n = 2 * m := ⟨n / 2, by omega⟩
  have hm : 2 * m / 2 = m := by omega
  rw [hm] at Hpt Hpf
  clear hlen he hm
  cases b
  · go_enter Try.func120, Try.ntmps120
    go_wp2
    go_loopw [6, 7] (fun out i wr => ∃ k : Nat, k ≤ m ∧ i = .int .i64 k ∧ wr.ownsRow w.heap.size 2 1 out (2 * k) ((tab (2 * k) (perfG fs false)).map (Value.int .i64)) ∧ Below w.heap.size w wr) (fun _ i _ => m - (intOf i).toNat)
    case atStart => exact ⟨0, Nat.zero_le _, rfl, own_zero w _ _ _ (Nat.le_refl _), (Below.refl _ w).alloc (Nat.le_refl _) _⟩
    case round =>
      obtain ⟨k, hk, rfl, hown, hb⟩ := hrel
      have Hown := Lib.hid hown
      have Hb := Lib.hid hb
      have hsz := hb.size
      by_cases hlt : k < m
      · obtain ⟨hcap, b, off, rfl, hbs, hc⟩ := Hf.out (by omega)
        have c1 : wr.cell? ⟨b, off + (m + k), none⟩ = some (.int .i64 (fs.getD (m + k) 0)) := by rw [hb.cell hbs]; exact hc (m + k) (by omega)
        have c2 : wr.cell? ⟨b, off + k, none⟩ = some (.int .i64 (fs.getD k 0)) := by rw [hb.cell hbs]; exact hc k (by omega)
        obtain ⟨hx, hy⟩ := Hpf.out k
        have Hx := Lib.hid hx
        have Hy := Lib.hid hy
        clear hc hown hb hx hy
        generalize fs.getD (m + k) 0 = x at *
        generalize fs.getD k 0 = y at *
        have hob := own_ne Hown.out hbs
        have hk0 : (0 : Int) ≤ (k : Int) := Int.natCast_nonneg _
        have hk1 : (k : Int) < 2 * (m : Int) := by omega
        have hs0 : (0 : Int) ≤ (m : Int) + (k : Int) := by omega
        have hs1 : (m : Int) + (k : Int) < 2 * (m : Int) := by omega
        have hcap2 : 2 * (m : Int) ≤ (cap : Int) := by omega
        have hmax : 2 * k + 2 ≤ maxLen := by unfold maxLen; omega
        have hby : (2 * k + 2) * 8 ≤ 140737488355328 := by omega
        have hsx : w.heap.size ≤ wr.heap.size + 1 := by omega
        have Hle := Lib.hid (show w.heap.size ≤ wr.heap.size + 1 by omega)
        have ht : ((m : Int) + (k : Int)).toNat = m + k := by omega
        have hw1 : IntKind.i64.wrap ((m : Int) + (k : Int)) = (m : Int) + (k : Int) := IntWalk.i64_in _ (by omega)
        go_wp2_with fail
        go_region_held3 (fun w' => w'.cell? ⟨b, off + (m + k), none⟩ = some (.int .i64 x) ∧ w'.cell? ⟨b, off + k, none⟩ = some (.int .i64 y))
          (first
            | go_keep
            | (go_split_ands
               refine ⟨?_, ?_⟩
               · (rw [hgrow.cell_far _ (by simp; omega) (Ne.symm hob)]; assumption)
               · (rw [hgrow.cell_far _ (by simp; omega) (Ne.symm hob)]; assumption)))
          ((refine step_append_lies _ (by rfl) _ _ _ (by rfl) w.heap.size 2 i0 _ 1 8 (by kernel_rfl) hi hz0 hz1 hz2 rfl (by omega) _ (2 * k) _ (by rfl) ((Hown.out.alloc _).drew) ⟨wr.heap.size, 0, none⟩ 2 2 [.int .i64 y, .int .i64 x] (by rfl) (by rfl) (two_new _ _ _ _) (two_int _ _) (by omega) hmax hby (by simp; exact hsx) (wr.heap.size + 1) (by simp) ?_; intro g cp w2 hown2 hgrow hat hlt2))
        have Hown2 := Lib.hid (own_two hown2 Hx.out Hy.out)
        have Hb2 := Lib.hid (((Hb.out.alloc (by omega) _).drew).grown hgrow (by simp; exact hsx) (fun b hb => (Hown.out.lt b hb).1))
        clear hown2 hgrow hw1 ht hat
        go_wp2
        go_roundw
        case rel => exact ⟨k + 1, by omega, by go_num, Hown2.out, Hb2.out⟩
        case measure => simp [intOf]; omega
      · obtain rfl : k = m := by omega
        clear hown hb
        go_wp2
        go_ret
        exact ⟨_, rfl, Sw.of_owns Hown.out (tab_len _ _), Hb.out⟩
  · go_enter Try.func120, Try.ntmps120
    go_wp2
    go_loopw [6, 7] (fun out i wr => ∃ k : Nat, k ≤ m ∧ i = .int .i64 k ∧ wr.ownsRow w.heap.size 2 1 out (2 * k) ((tab (2 * k) (perfG fs true)).map (Value.int .i64)) ∧ Below w.heap.size w wr) (fun _ i _ => m - (intOf i).toNat)
    case atStart => exact ⟨0, Nat.zero_le _, rfl, own_zero w _ _ _ (Nat.le_refl _), (Below.refl _ w).alloc (Nat.le_refl _) _⟩
    case round =>
      obtain ⟨k, hk, rfl, hown, hb⟩ := hrel
      have Hown := Lib.hid hown
      have Hb := Lib.hid hb
      have hsz := hb.size
      by_cases hlt : k < m
      · obtain ⟨hcap, b, off, rfl, hbs, hc⟩ := Hf.out (by omega)
        have c1 : wr.cell? ⟨b, off + (m + k), none⟩ = some (.int .i64 (fs.getD (m + k) 0)) := by rw [hb.cell hbs]; exact hc (m + k) (by omega)
        have c2 : wr.cell? ⟨b, off + k, none⟩ = some (.int .i64 (fs.getD k 0)) := by rw [hb.cell hbs]; exact hc k (by omega)
        obtain ⟨hx, hy⟩ := Hpt.out k
        have Hx := Lib.hid hx
        have Hy := Lib.hid hy
        clear hc hown hb hx hy
        generalize fs.getD (m + k) 0 = x at *
        generalize fs.getD k 0 = y at *
        have hob := own_ne Hown.out hbs
        have hk0 : (0 : Int) ≤ (k : Int) := Int.natCast_nonneg _
        have hk1 : (k : Int) < 2 * (m : Int) := by omega
        have hs0 : (0 : Int) ≤ (m : Int) + (k : Int) := by omega
        have hs1 : (m : Int) + (k : Int) < 2 * (m : Int) := by omega
        have hcap2 : 2 * (m : Int) ≤ (cap : Int) := by omega
        have hmax : 2 * k + 2 ≤ maxLen := by unfold maxLen; omega
        have hby : (2 * k + 2) * 8 ≤ 140737488355328 := by omega
        have hsx : w.heap.size ≤ wr.heap.size + 1 := by omega
        have Hle := Lib.hid (show w.heap.size ≤ wr.heap.size + 1 by omega)
        have ht : ((m : Int) + (k : Int)).toNat = m + k := by omega
        have hw1 : IntKind.i64.wrap ((m : Int) + (k : Int)) = (m : Int) + (k : Int) := IntWalk.i64_in _ (by omega)
        go_wp2_with fail
        go_region_held3 (fun w' => w'.cell? ⟨b, off + (m + k), none⟩ = some (.int .i64 x) ∧ w'.cell? ⟨b, off + k, none⟩ = some (.int .i64 y))
          (first
            | go_keep
            | (go_split_ands
               refine ⟨?_, ?_⟩
               · (rw [hgrow.cell_far _ (by simp; omega) (Ne.symm hob)]; assumption)
               · (rw [hgrow.cell_far _ (by simp; omega) (Ne.symm hob)]; assumption)))
          ((refine step_append_lies _ (by rfl) _ _ _ (by rfl) w.heap.size 2 i0 _ 1 8 (by kernel_rfl) hi hz0 hz1 hz2 rfl (by omega) _ (2 * k) _ (by rfl) ((Hown.out.alloc _).drew) ⟨wr.heap.size, 0, none⟩ 2 2 [.int .i64 x, .int .i64 y] (by rfl) (by rfl) (two_new _ _ _ _) (two_int _ _) (by omega) hmax hby (by simp; exact hsx) (wr.heap.size + 1) (by simp) ?_; intro g cp w2 hown2 hgrow hat hlt2))
        have Hown2 := Lib.hid (own_two hown2 Hx.out Hy.out)
        have Hb2 := Lib.hid (((Hb.out.alloc (by omega) _).drew).grown hgrow (by simp; exact hsx) (fun b hb => (Hown.out.lt b hb).1))
        clear hown2 hgrow hw1 ht hat
        go_wp2
        go_roundw
        case rel => exact ⟨k + 1, by omega, by go_num, Hown2.out, Hb2.out⟩
        case measure => simp [intOf]; omega
      · obtain rfl : k = m := by omega
        clear hown hb
        go_wp2
        go_ret
        exact ⟨_, rfl, Sw.of_owns Hown.out (tab_len _ _), Hb.out⟩

