/- Contracts: dealing down and under, pure and the model's. -/
import Derived.Test.YtkhjeijcpldojaaDc
import Derived.Deep.AppendLies
import Derived.Deep.LoopGhost
import Derived.Deep.RegionHeld3
import Derived.Deep.Cut
set_option linter.unusedVariables false
namespace Go.Proofs.Ytkhjeijcpldojaa
open Go.RowKit

def duN (L : List Int) : List Int := match L.tail with
  | [] => []
  | y :: s => s ++ [y]
theorem duN_len (L : List Int) : (duN L).length = L.length - 1 := by
  unfold duN
  rw [← List.length_tail]
  split
  · rename_i h; rw [h]
  · rename_i h; rw [h]; simp
theorem duN_small (L : List Int) (h : L.length ≤ 2) : duN L = L.tail := by
  unfold duN
  split
  · rename_i e; rw [e]
  · rename_i y s e
    have := congrArg List.length e
    simp at this
    have : s = [] := by cases s with
      | nil => rfl
      | cons a b => simp at this; omega
    rw [e, this]; rfl
theorem duN_big (L : List Int) (h : 3 ≤ L.length) : duN L = L.tail.tail ++ [L.tail.getD 0 0] := by
  unfold duN
  split
  · rename_i e
    have := congrArg List.length e
    simp at this; omega
  · rename_i y s e
    rw [e]; rfl
def duS (n : Nat) : Nat → List Int
  | 0 => tab n fun k => (k : Int)
  | k + 1 => duN (duS n k)
theorem duS_len (n : Nat) : ∀ k, (duS n k).length = n - k
  | 0 => by rw [duS, tab_len]; rfl
  | k + 1 => by rw [duS, duN_len, duS_len n k]; omega
def duG (n k : Nat) : Int := (duS n k).getD 0 0

theorem own_keep {w w' : World} {base g0 cap : Nat} {e : TypeId} {size n : Nat} {xs : List Value} (h : w.ownsRow base e size (.slice (some ⟨g0, 0, none⟩) n cap) n xs) (hk : w'.heap[g0]? = w.heap[g0]?) : w'.ownsRow base e size (.slice (some ⟨g0, 0, none⟩) n cap) n xs := by
  obtain ⟨h1, h2⟩ := h
  refine ⟨h1, ?_⟩
  rcases h2 with ⟨hn, h0⟩ | ⟨g', cap', cur, hv, hb, hgg, hc, hm, hs, ht⟩
  · exact .inl ⟨hn, h0⟩
  · cases hv
    exact .inr ⟨g0, cap, cur, rfl, hb, hk.trans hgg, hc, hm, hs, ht⟩
theorem own_cell {w : World} {base g cap n : Nat} {e : TypeId} {L : List Int} (h : w.ownsRow base e 1 (.slice (some ⟨g, 0, none⟩) n cap) n (L.map (Value.int .i64))) (k : Nat) (hk : k < n) : w.cell? ⟨g, k, none⟩ = some (.int .i64 (L.getD k 0)) := by
  have hl : L.length = n := by have := h.1; simp at this; exact this
  rw [h.cellAt k (by omega), List.getElem?_map, List.getElem?_eq_getElem (by omega)]
  simp [List.getD, show k < L.length by omega]
theorem own_tail {w : World} {base g cap n : Nat} {e : TypeId} {L : List Int} (h : w.ownsRow base e 1 (.slice (some ⟨g, 0, none⟩) n cap) n (L.map (Value.int .i64))) : ∀ j u, (L.tail.map (Value.int .i64))[j]? = some u → w.cell? ((⟨g, 1, none⟩ : Addr).add j) = some u := by
  intro j u hj
  have hc := h.cells (g := g) rfl (j + 1) u (by rw [List.getElem?_map] at hj ⊢; rw [← hj]; cases L <;> simp)
  have e1 : (⟨g, 0, none⟩ : Addr).add (j + 1) = (⟨g, 1, none⟩ : Addr).add j := by
    unfold Addr.add
    rw [if_neg (by omega)]
    split
    · subst j; rfl
    · simp; omega
  rw [← e1]; exact hc
theorem own_cap {w : World} {base g cap n : Nat} {e : TypeId} {xs : List Value} (h : w.ownsRow base e 1 (.slice (some ⟨g, 0, none⟩) n cap) n xs) : n ≤ cap := by
  rcases h.2 with ⟨h, _⟩ | ⟨g', cap', cur, hv, -, -, hc, -⟩
  · cases h
  · cases hv; exact hc
theorem ints_one (L : List Int) : ∀ t ∈ L.map (Value.int .i64), t.oneCell' = true := fun t ht => by
  obtain ⟨y, -, rfl⟩ := List.mem_map.1 ht; rfl

theorem du_fact {base b2 n2 c2 bE b4 : Nat} {e : TypeId} {w w3 W w4 : World} {xs : List Value} (HO3 : w3.ownsRow base e 1 (.slice (some ⟨b2, 0, none⟩) n2 c2) n2 xs) (HB3 : Below base w w3) (hB : Below w3.heap.size w3 W) (hbase : base ≤ w3.heap.size) (hgrow : W.grownBy w4 (some bE)) (hE : w3.heap.size ≤ bE) (hat : some bE = some b4 ∨ b4 = W.heap.size) :
    Hid (w4.ownsRow base e 1 (.slice (some ⟨b2, 0, none⟩) n2 c2) n2 xs) ∧ Hid (Below base w w4) ∧ Hid (Below w3.heap.size w3 w4) ∧ w3.heap.size ≤ b4 := by
  have h2 : b2 < w3.heap.size := (HO3.lt _ rfl).2
  have hs := hB.size
  refine ⟨Lib.hid ?_, Lib.hid ?_, Lib.hid ?_, ?_⟩
  · exact (own_keep HO3 (hB.block b2 h2)).kept hgrow (.inr (by simp [Value.ownBlock]; omega))
  · exact (HB3.trans (hB.mono hbase)).grown hgrow (by omega) (fun k hk => by cases hk; omega)
  · exact hB.grown hgrow (by omega) (fun k hk => by cases hk; omega)
  · rcases hat with h | h
    · injection h with h; omega
    · omega
theorem news_kept {w w' : World} {own : Option Nat} {b : Nat} {x : Value} (hg : w.grownBy w' own) (hc : w.cell? ⟨b, 0, none⟩ = some x) (hne : some b ≠ own) : ∀ j u, [x][j]? = some u → w'.cell? ((⟨b, 0, none⟩ : Addr).add j) = some u := by
  intro j u h
  cases j with
  | zero =>
    simp at h
    subst h
    rw [show (⟨b, 0, none⟩ : Addr).add 0 = ⟨b, 0, none⟩ from rfl, hg.cell_far _ (World.block_lt_of_cell? _ _ hc) hne]
    exact hc
  | succ j => simp at h

set_option maxHeartbeats 4000000 in
theorem du_spec (n : Nat) (w : World) (n1 : 1 ≤ n) (n2 : n ≤ 52) :
    Calls Try.prog 17 #[.int .i64 (n : Int)] w fun e w' => ∃ r, e = .returned (.tuple #[r, .bool true]) ∧ Sw (Value.int .i64) 0 w' r (tab n (duG n)) w.heap.size w'.heap.size ∧ Below w.heap.size w w' := by
  have Hin := Lib.hid (in_yes (n : Int) 1 52 w (by omega) (by omega))
  have Hnew := Lib.hid (l02New_any n w (by omega))
  obtain ⟨i0, hi, hz0, hz1, hz2⟩ := info_parts (show (Try.prog.info? 2).map (fun i => (i.zero, i.size, i.bytes)) = some (some (.int .i64 0), 1, 8) by kernel_rfl)
  have Hlen := Lib.hid (duS_len n)
  have HS0 : Hid (duS n 0 = tab n fun k => (k : Int)) := Lib.hid rfl
  have HSk : Hid (∀ k, duS n (k + 1) = duN (duS n k)) := Lib.hid (fun _ => rfl)
  have HG : Hid (∀ k, duG n k = (duS n k).getD 0 0) := Lib.hid (fun _ => rfl)
  go_enter Try.func17, Try.ntmps17
  go_wp2_with (first | (go_at_call 39; refine Hin.out.mono ?_; rintro e w' ⟨rfl, rfl⟩) | (go_at_call 41; refine Hnew.out.mono ?_; rintro e w1 ⟨r, rfl, hs, hb⟩; have Hs := Lib.hid hs; have Hb := Lib.hid hb; clear hs hb))
  obtain ⟨b0, c0, rfl, hb0, hb1⟩ := Hs.out.form (by omega)
  have hsz := Hb.out.size
  go_wp2
  go_loopg [4, 5] n (fun gk v u wr => ∃ (k bu cu bv cv : Nat), k ≤ n ∧ gk = n - k ∧ u = .slice (some ⟨bu, 0, none⟩) k cu ∧ v = .slice (some ⟨bv, 0, none⟩) (n - k) cv ∧ Hid (wr.ownsRow w.heap.size 2 1 (.slice (some ⟨bu, 0, none⟩) k cu) k ((tab k (duG n)).map (Value.int .i64))) ∧ Hid (wr.ownsRow w.heap.size 2 1 (.slice (some ⟨bv, 0, none⟩) (n - k) cv) (n - k) ((duS n k).map (Value.int .i64))) ∧ bu ≠ bv ∧ Hid (Below w.heap.size w wr))
  case atStart =>
    refine ⟨0, w1.heap.size, 0, b0, c0, Nat.zero_le _, rfl, rfl, rfl, Lib.hid ?_, Lib.hid ?_, by omega, Lib.hid ?_⟩
    · exact own_zero w1 w.heap.size 2 (duG n) hsz
    · rw [HS0.out]; exact Hs.out.alloc _
    · exact Hb.out.alloc hsz _
  case round =>
    obtain ⟨k, bu, cu, bv, cv, hk, rfl, rfl, rfl, hou, hle, hne, hb⟩ := hrel
    by_cases hlt : k < n
    · obtain ⟨l, hl⟩ : ∃ l, n - k = l + 1 := ⟨n - k - 1, by omega⟩
      have hl1 : n - (k + 1) = l := by omega
      have HLl : Hid ((duS n k).length = l + 1) := Lib.hid (by rw [Hlen.out k, hl])
      have HN := Lib.hid (HSk.out k)
      have Hx := Lib.hid (HG.out k)
      rw [hl] at hle ⊢
      have c1 := own_cell hle.out 0 (by omega)
      rw [← Hx.out] at c1
      have hcv : l + 1 ≤ cv := own_cap hle.out
      have hvs : bv < wr.heap.size := (hle.out.lt _ rfl).2
      have hus : bu < wr.heap.size := (hou.out.lt _ rfl).2
      have hbb : w.heap.size ≤ bv := (hle.out.lt _ rfl).1
      have hsz2 : w.heap.size ≤ wr.heap.size := hb.out.size
      have Hsn : Hid (∀ {W : World} {v : Value}, W.ownsRow w.heap.size 2 1 v (k + 1) ((tab k (duG n)).map (Value.int .i64) ++ [.int .i64 (duG n k)]) → W.ownsRow w.heap.size 2 1 v (k + 1) ((tab (k + 1) (duG n)).map (Value.int .i64))) := Lib.hid (fun h => own_snoc h)
      generalize duG n k = x at *
      generalize duS n k = L at *
      go_upto_region 7 with (at_builtin; refine wpList_append_lies _ rfl _ _ 22 rfl w.heap.size 2 i0 (.int .i64 0) 1 8 (by kernel_rfl) hi hz0 hz1 hz2 rfl (by decide) _ _ _ rfl (hou.out.alloc _) ⟨wr.heap.size, 0, none⟩ 1 1 [.int .i64 x] rfl rfl (cell_one_new _ _ _) (one_int _) (by omega) (by unfold maxLen; omega) (by omega) (by simp; omega) (wr.heap.size + 1) (by simp) ?_; intro b2 c2 w2 hown2 hgrow2 hat2 hlt2)
      have hgrow2 : World.grownBy (wr.alloc (.cells #[.int .i64 x] 2)) w2 (some bu) := hgrow2
      have hat2 : some bu = some b2 ∨ b2 = wr.heap.size + 1 := hat2
      have HO2 := Lib.hid (Hsn.out hown2)
      have HW2 := Lib.hid ((hle.out.alloc _).kept hgrow2 (.inr (by simp [Value.ownBlock]; omega)))
      have hne2 : b2 ≠ bv := by
        rcases hat2 with h | h
        · cases h; exact hne
        · omega
      have HB2 := Lib.hid ((hb.out.alloc hsz2 _).grown hgrow2 (by simp; omega) (fun b hb => (hou.out.lt b hb).1))
      have h2s : b2 < w2.heap.size := hlt2
      have hv2 : bv < w2.heap.size := (HW2.out.lt _ rfl).2
      have hsz3 : w.heap.size ≤ w2.heap.size := HB2.out.size
      clear hown2 hgrow2 hat2 hlt2 c1 hou hle hb hvs hus hsz2
      have HE := Lib.hid (own_zero w2 w.heap.size 2 (fun _ => 0) hsz3)
      have HT := Lib.hid (own_tail (HW2.out.alloc (.cells #[] 2)))
      by_cases hl0 : l = 0
      · subst hl0
        have HE0 : Hid ((([] : List Int).map (Value.int .i64)).length = 0 * 1) := Lib.hid rfl
        have HF0 : Hid (duS n (k + 1) = []) := Lib.hid (by
          have := Hlen.out (k + 1)
          rw [hl1] at this
          exact List.eq_nil_of_length_eq_zero this)
        by_cases hc1 : cv = 1
        · subst hc1
          go_upto_region 8 with (at_builtin; refine wpList_append_own_at _ rfl _ _ 22 rfl w.heap.size 2 i0 (.int .i64 0) 1 8 (by kernel_rfl) hi hz0 hz1 hz2 rfl (by decide) _ _ _ rfl HE.out ⟨bv, 0, none⟩ 0 0 [] rfl rfl (fun _ _ h => by simp at h) (fun _ h => by simp at h) (by unfold maxLen; omega) (by omega) (by simp; omega) ?_; intro v3 w3 hown3 hgrow3 hnil3 hat3)
          have hgrow3 : World.grownBy (w2.alloc (.cells #[] 2)) w3 (some w2.heap.size) := hgrow3
          have HO3 := Lib.hid ((HO2.out.alloc _).kept hgrow3 (.inr (by simp [Value.ownBlock]; omega)))
          have HB3 := Lib.hid ((HB2.out.alloc hsz3 _).grown hgrow3 (by simp; omega) (fun b hb => by cases hb; exact hsz3))
          have hnil3 : v3 = .slice none 0 0 ↔ Value.slice (some ⟨w2.heap.size, 0, none⟩) 0 0 = .slice none 0 0 ∧ 0 = 0 := hnil3
          have hat3 : v3.ownBlock = some w2.heap.size ∨ v3.ownBlock = some (w2.alloc (.cells #[] 2)).heap.size := hat3
          obtain ⟨b3, c3, rfl, hne3⟩ : ∃ b3 c3, v3 = .slice (some ⟨b3, 0, none⟩) 0 c3 ∧ b2 ≠ b3 := by
            rcases hown3.2 with ⟨h, _⟩ | ⟨g', cap', cur, hv, -⟩
            · cases (hnil3.1 h).1
            · refine ⟨g', cap', hv, ?_⟩
              rw [hv] at hat3
              simp [Value.ownBlock] at hat3
              omega
          have HF : Hid (w3.ownsRow w.heap.size 2 1 (.slice (some ⟨b3, 0, none⟩) 0 c3) 0 ((duS n (k + 1)).map (Value.int .i64))) := Lib.hid (by rw [HF0.out]; exact hown3)
          clear hown3 hgrow3 hat3 hnil3 HE HT HW2 HO2 HB2 hne2 h2s hv2 hsz3
          go_wp2
          go_roundg (n - (k + 1))
          case measure => omega
          case rel => exact ⟨k + 1, b2, c2, b3, c3, by omega, rfl, rfl, by rw [hl1], HO3, by rw [hl1]; exact HF, hne3, HB3⟩
        · have hcv1 : (1 : Int) < (cv : Int) := by omega
          go_upto_region 8 with (at_builtin; refine wpList_append_own_at _ rfl _ _ 22 rfl w.heap.size 2 i0 (.int .i64 0) 1 8 (by kernel_rfl) hi hz0 hz1 hz2 rfl (by decide) _ _ _ rfl HE.out ⟨bv, 1, none⟩ 0 (cv - 1) [] rfl rfl (fun _ _ h => by simp at h) (fun _ h => by simp at h) (by unfold maxLen; omega) (by omega) (by simp; omega) ?_; intro v3 w3 hown3 hgrow3 hnil3 hat3)
          have hgrow3 : World.grownBy (w2.alloc (.cells #[] 2)) w3 (some w2.heap.size) := hgrow3
          have HO3 := Lib.hid ((HO2.out.alloc _).kept hgrow3 (.inr (by simp [Value.ownBlock]; omega)))
          have HB3 := Lib.hid ((HB2.out.alloc hsz3 _).grown hgrow3 (by simp; omega) (fun b hb => by cases hb; exact hsz3))
          have hnil3 : v3 = .slice none 0 0 ↔ Value.slice (some ⟨w2.heap.size, 0, none⟩) 0 0 = .slice none 0 0 ∧ 0 = 0 := hnil3
          have hat3 : v3.ownBlock = some w2.heap.size ∨ v3.ownBlock = some (w2.alloc (.cells #[] 2)).heap.size := hat3
          obtain ⟨b3, c3, rfl, hne3⟩ : ∃ b3 c3, v3 = .slice (some ⟨b3, 0, none⟩) 0 c3 ∧ b2 ≠ b3 := by
            rcases hown3.2 with ⟨h, _⟩ | ⟨g', cap', cur, hv, -⟩
            · cases (hnil3.1 h).1
            · refine ⟨g', cap', hv, ?_⟩
              rw [hv] at hat3
              simp [Value.ownBlock] at hat3
              omega
          have HF : Hid (w3.ownsRow w.heap.size 2 1 (.slice (some ⟨b3, 0, none⟩) 0 c3) 0 ((duS n (k + 1)).map (Value.int .i64))) := Lib.hid (by rw [HF0.out]; exact hown3)
          clear hown3 hgrow3 hat3 hnil3 HE HT HW2 HO2 HB2 hne2 h2s hv2 hsz3
          go_wp2
          go_roundg (n - (k + 1))
          case measure => omega
          case rel => exact ⟨k + 1, b2, c2, b3, c3, by omega, rfl, rfl, by rw [hl1], HO3, by rw [hl1]; exact HF, hne3, HB3⟩
      · have hcv1 : (1 : Int) < (cv : Int) := by omega
        have hle1 : (1 : Int) ≤ (l : Int) + 1 := by omega
        have HTl : Hid ((L.tail.map (Value.int .i64)).length = l * 1) := Lib.hid (by rw [List.length_map, List.length_tail, HLl.out]; omega)
        go_upto_region 8 with (at_builtin; refine wpList_append_lies _ rfl _ _ 22 rfl w.heap.size 2 i0 (.int .i64 0) 1 8 (by kernel_rfl) hi hz0 hz1 hz2 rfl (by decide) _ _ _ rfl HE.out ⟨bv, 1, none⟩ l (cv - 1) (L.tail.map (Value.int .i64)) rfl HTl.out HT.out (ints_one _) (by omega) (by unfold maxLen; omega) (by omega) (by simp; omega) (w2.heap.size + 1) (by simp) ?_; intro b3 c3 w3 hown3 hgrow3 hat3 hlt3)
        have hgrow3 : World.grownBy (w2.alloc (.cells #[] 2)) w3 (some w2.heap.size) := hgrow3
        have hat3 : some w2.heap.size = some b3 ∨ b3 = w2.heap.size + 1 := hat3
        have hown3 : w3.ownsRow w.heap.size 2 1 (.slice (some ⟨b3, 0, none⟩) (0 + l) c3) (0 + l) (L.tail.map (Value.int .i64)) := hown3
        have HO3 := Lib.hid ((HO2.out.alloc _).kept hgrow3 (.inr (by simp [Value.ownBlock]; omega)))
        have hne3 : b2 ≠ b3 := by
          rcases hat3 with h | h
          · cases h; omega
          · omega
        have HB3 := Lib.hid ((HB2.out.alloc hsz3 _).grown hgrow3 (by simp; omega) (fun b hb => by cases hb; exact hsz3))
        have hsz4 : w.heap.size ≤ w3.heap.size := HB3.out.size
        have h3s : b3 < w3.heap.size := hlt3
        have h32 : b2 < w3.heap.size := (HO3.out.lt _ rfl).2
        generalize hq : 0 + l = q at *
        obtain rfl : q = l := by omega
        have Hw3 := Lib.hid hown3
        clear hown3 hgrow3 hat3 hlt3 hq HE HT HTl HW2 HO2 HB2 hne2 h2s hv2 hsz3
        by_cases hl1' : q = 1
        · subst hl1'
          have HF : Hid (w3.ownsRow w.heap.size 2 1 (.slice (some ⟨b3, 0, none⟩) 1 c3) 1 ((duS n (k + 1)).map (Value.int .i64))) := Lib.hid (by rw [HN.out, duN_small _ (by rw [HLl.out]; omega)]; exact Hw3.out)
          go_wp2
          go_roundg (n - (k + 1))
          case measure => omega
          case rel => exact ⟨k + 1, b2, c2, b3, c3, by omega, rfl, rfl, by rw [hl1], HO3, by rw [hl1]; exact HF, hne3, HB3⟩
        · have hq1 : decide (1 < q) = true := decide_eq_true (by omega)
          have hq2 : (1 : Int) ≤ (q : Int) := by omega
          have hq3 : (0 : Int) < (q : Int) := by omega
          have hq5 : 0 < q := by omega
          have hq6 : decide (0 < q) = true := decide_eq_true (by omega)
          have hcv3 : q ≤ c3 := own_cap Hw3.out
          have hcv4 : (1 : Int) < (c3 : Int) := by omega
          have hc31 : (c3 = 1) = False := eq_false (by omega)
          have c4 := own_cell Hw3.out 0 (by omega)
          have HE4 := Lib.hid (own_zero w3 w.heap.size 2 (fun _ => 0) hsz4)
          have HD : Hid (duS n (k + 1) = L.tail.tail ++ [L.tail.getD 0 0]) := Lib.hid (by rw [HN.out, duN_big _ (by rw [HLl.out]; omega)])
          have HTl : Hid ((L.tail.tail.map (Value.int .i64)).length = (q - 1) * 1) := Lib.hid (by rw [List.length_map, List.length_tail, List.length_tail, HLl.out]; omega)
          have HT4 : Hid (∀ {W : World}, Below w3.heap.size w3 W → ∀ j u, (L.tail.tail.map (Value.int .i64))[j]? = some u → W.cell? ((⟨b3, 1, none⟩ : Addr).add j) = some u) := Lib.hid (fun hB j u h => by
            have := own_tail Hw3.out j u h
            exact (hB.cell (World.block_lt_of_cell? _ _ this)).trans this)
          generalize L.tail.getD 0 0 = y at *
          have BA := Lib.hid ((Below.refl w3.heap.size w3).alloc (Nat.le_refl _) (.cells #[] 2))
          have BAC := Lib.hid (((Below.refl w3.heap.size w3).alloc (Nat.le_refl _) (.cells #[] 2)).alloc (by simp) (.cells #[.int .i64 y] 2))
          have BCA := Lib.hid (((Below.refl w3.heap.size w3).alloc (Nat.le_refl _) (.cells #[.int .i64 y] 2)).alloc (by simp) (.cells #[] 2))
          have EAC := Lib.hid (HE4.out.alloc (.cells #[.int .i64 y] 2))
          have ECA : Hid (((w3.alloc (.cells #[.int .i64 y] 2)).alloc (.cells #[] 2)).ownsRow w.heap.size 2 1 (.slice (some ⟨w3.heap.size + 1, 0, none⟩) 0 0) 0 ((tab 0 fun _ => (0 : Int)).map (Value.int .i64))) := Lib.hid (by
            have := own_zero (w3.alloc (.cells #[.int .i64 y] 2)) w.heap.size 2 (fun _ => 0) (by simp; omega)
            rw [show (w3.alloc (.cells #[.int .i64 y] 2)).heap.size = w3.heap.size + 1 by simp] at this
            exact this)
          have CAC : Hid (((w3.alloc (.cells #[] 2)).alloc (.cells #[.int .i64 y] 2)).cell? ⟨w3.heap.size + 1, 0, none⟩ = some (.int .i64 y)) := Lib.hid (by
            have := cell_one_new (w3.alloc (.cells #[] 2)) (.int .i64 y) 2 0 _ rfl
            rw [show (w3.alloc (.cells #[] 2)).heap.size = w3.heap.size + 1 by simp] at this
            exact this)
          have CCA : Hid (((w3.alloc (.cells #[.int .i64 y] 2)).alloc (.cells #[] 2)).cell? ⟨w3.heap.size, 0, none⟩ = some (.int .i64 y)) := Lib.hid (by
            rw [World.cell?_alloc_past _ _ _ (by simp)]
            exact cell_one_new w3 (.int .i64 y) 2 0 _ rfl)
          go_upto_region 9 with (fail)
          go_region_held3 (fun w' => w'.cell? ⟨b3, 0, none⟩ = some (.int .i64 y)) (first | go_keep | (refine (hgrow5.cell_far _ (by simp; omega) (by simp [Value.ownBlock]; omega)).trans ?_; assumption) | (refine (hgrow4.cell_far _ (by simp; omega) (by simp [Value.ownBlock]; omega)).trans ?_; assumption)) (first | (refine step_append_lies _ (by rfl) (.tmp 28) (.tmp 30) 22 (by rfl) w.heap.size 2 i0 _ 1 8 (by kernel_rfl) hi hz0 hz1 hz2 rfl (by omega) (.slice (some ⟨w3.heap.size, 0, none⟩) 0 0) 0 _ (by rfl) (HE4.out.drew) ⟨b3, 1, none⟩ (q - 1) (c3 - 1) (L.tail.tail.map (Value.int .i64)) (by rfl) HTl.out (HT4.out BA.out.drew) (ints_one _) (by omega) (by unfold maxLen; omega) (by omega) (Nat.le_trans hsz4 (BA.out.drew).size) _ rfl ?_; intro b4 c5 w4 hown4 hgrow4 hat4 hlt4; have hown4' := hown4; rw [Nat.zero_add] at hown4; obtain ⟨HO4, HB4, HK4, hb4⟩ := du_fact HO3.out HB3.out (by first | exact (BA.out.drew) | exact (BA.out)) hsz4 (bE := w3.heap.size) hgrow4 (by omega) hat4) | (refine step_append_lies _ (by rfl) (.tmp 28) (.tmp 30) 22 (by rfl) w.heap.size 2 i0 _ 1 8 (by kernel_rfl) hi hz0 hz1 hz2 rfl (by omega) (.slice (some ⟨w3.heap.size, 0, none⟩) 0 0) 0 _ (by rfl) (EAC.out.drew) ⟨b3, 1, none⟩ (q - 1) (c3 - 1) (L.tail.tail.map (Value.int .i64)) (by rfl) HTl.out (HT4.out BAC.out.drew) (ints_one _) (by omega) (by unfold maxLen; omega) (by omega) (Nat.le_trans hsz4 (BAC.out.drew).size) _ rfl ?_; intro b4 c5 w4 hown4 hgrow4 hat4 hlt4; have hown4' := hown4; rw [Nat.zero_add] at hown4; obtain ⟨HO4, HB4, HK4, hb4⟩ := du_fact HO3.out HB3.out (by first | exact (BAC.out.drew) | exact (BAC.out)) hsz4 (bE := w3.heap.size) hgrow4 (by omega) hat4; have hC4 := Lib.hid (news_kept hgrow4 (CAC.out) (by simp [Value.ownBlock]))) | (refine step_append_lies _ (by rfl) (.tmp 28) (.tmp 30) 22 (by rfl) w.heap.size 2 i0 _ 1 8 (by kernel_rfl) hi hz0 hz1 hz2 rfl (by omega) (.slice (some ⟨w3.heap.size + 1, 0, none⟩) 0 0) 0 _ (by rfl) (ECA.out.drew) ⟨b3, 1, none⟩ (q - 1) (c3 - 1) (L.tail.tail.map (Value.int .i64)) (by rfl) HTl.out (HT4.out BCA.out.drew) (ints_one _) (by omega) (by unfold maxLen; omega) (by omega) (Nat.le_trans hsz4 (BCA.out.drew).size) _ rfl ?_; intro b4 c5 w4 hown4 hgrow4 hat4 hlt4; have hown4' := hown4; rw [Nat.zero_add] at hown4; obtain ⟨HO4, HB4, HK4, hb4⟩ := du_fact HO3.out HB3.out (by first | exact (BCA.out.drew) | exact (BCA.out)) hsz4 (bE := w3.heap.size + 1) hgrow4 (by omega) hat4; have hC4 := Lib.hid (news_kept hgrow4 (CCA.out) (by simp [Value.ownBlock]))) | (refine step_append_lies _ (by rfl) (.tmp 31) (.tmp 35) 22 (by rfl) w.heap.size 2 i0 _ 1 8 (by kernel_rfl) hi hz0 hz1 hz2 rfl (by omega) (.slice (some ⟨b4, 0, none⟩) (q - 1) c5) (q - 1) _ (by rfl) ((hown4.alloc (.cells #[.int .i64 y] 2)).drew) ⟨w4.heap.size, 0, none⟩ 1 1 [.int .i64 y] (by rfl) (by rfl) (cell_one_new w4 _ _) (one_int _) (by omega) (by unfold maxLen; omega) (by omega) (Nat.le_trans hsz4 (((HK4.out.alloc (Nat.le_of_lt (Nat.lt_of_le_of_lt hb4 hlt4)) (.cells #[.int .i64 y] 2)).drew)).size) _ rfl ?_; intro b5 c6 w5 hown5 hgrow5 hat5 hlt5; obtain ⟨HO5, HB5, HK5, hb5⟩ := du_fact HO3.out HB3.out (by first | exact (((HK4.out.alloc (Nat.le_of_lt (Nat.lt_of_le_of_lt hb4 hlt4)) (.cells #[.int .i64 y] 2)).drew)) | exact (((HK4.out.alloc (Nat.le_of_lt (Nat.lt_of_le_of_lt hb4 hlt4)) (.cells #[.int .i64 y] 2))))) hsz4 (bE := b4) hgrow5 hb4 hat5) | (refine step_append_lies _ (by rfl) (.tmp 31) (.tmp 35) 22 (by rfl) w.heap.size 2 i0 _ 1 8 (by kernel_rfl) hi hz0 hz1 hz2 rfl (by omega) (.slice (some ⟨b4, 0, none⟩) (0 + (q - 1)) c5) (0 + (q - 1)) _ (by rfl) (hown4'.drew) ⟨w3.heap.size + 1, 0, none⟩ 1 1 [.int .i64 y] (by rfl) (by rfl) (hC4.out) (one_int _) (by omega) (by unfold maxLen; omega) (by omega) (Nat.le_trans hsz4 (HK4.out.drew).size) _ rfl ?_; intro b5 c6 w5 hown5 hgrow5 hat5 hlt5; obtain ⟨HO5, HB5, HK5, hb5⟩ := du_fact HO3.out HB3.out (by first | exact (HK4.out.drew) | exact (HK4.out)) hsz4 (bE := b4) hgrow5 hb4 hat5) | (refine step_append_lies _ (by rfl) (.tmp 31) (.tmp 35) 22 (by rfl) w.heap.size 2 i0 _ 1 8 (by kernel_rfl) hi hz0 hz1 hz2 rfl (by omega) (.slice (some ⟨b4, 0, none⟩) (0 + (q - 1)) c5) (0 + (q - 1)) _ (by rfl) (hown4'.drew) ⟨w3.heap.size, 0, none⟩ 1 1 [.int .i64 y] (by rfl) (by rfl) (hC4.out) (one_int _) (by omega) (by unfold maxLen; omega) (by omega) (Nat.le_trans hsz4 (HK4.out.drew).size) _ rfl ?_; intro b5 c6 w5 hown5 hgrow5 hat5 hlt5; obtain ⟨HO5, HB5, HK5, hb5⟩ := du_fact HO3.out HB3.out (by first | exact (HK4.out.drew) | exact (HK4.out)) hsz4 (bE := b4) hgrow5 hb4 hat5))
          all_goals
            have HF : Hid (w5.ownsRow w.heap.size 2 1 (.slice (some ⟨b5, 0, none⟩) q c6) q ((duS n (k + 1)).map (Value.int .i64))) := Lib.hid (by
              have h := hown5
              try simp only [Nat.zero_add] at h
              rw [Nat.sub_add_cancel hq5] at h
              rw [HD.out, List.map_append]
              exact h)
            have hne5 : b2 ≠ b5 := by omega
            rw [Nat.sub_add_cancel hq5]
            clear hown5 hgrow5 hat5 hlt5 hown4 hgrow4 hat4 hlt4 HO4 HB4 HK4
            go_wp2
            go_roundg (n - (k + 1))
            case measure => omega
            case rel => exact ⟨k + 1, b2, c2, b5, c6, by omega, rfl, rfl, by rw [hl1], HO5, by rw [hl1]; exact HF, hne5, HB5⟩
    · obtain rfl : k = n := by omega
      rw [Nat.sub_self] at hle
      go_wp2
      go_ret2
      exact ⟨_, rfl, Sw.of_owns hou.out (tab_len _ _), hb.out⟩
end Go.Proofs.Ytkhjeijcpldojaa
