/- Lists of dice: what they read as; the law's helpers at them. -/
import Derived.Test.YtcoehcoohppbjaaMa
import Derived.Deep.RegionLawGrows
set_option linter.unusedVariables false
namespace Go.Proofs.Ytcoehcoohppbjaa
open Go.RowKit

/-- how many faces the first k dice have -/
def totD (ds : List (List Int)) : Nat → Nat
  | 0 => 0
  | k + 1 => totD ds k + (ds.getD k []).length
theorem totD_mono (ds : List (List Int)) (k : Nat) : ∀ j, totD ds k ≤ totD ds (k + j)
  | 0 => Nat.le_refl _
  | j + 1 => Nat.le_trans (totD_mono ds k j) (by show _ ≤ totD ds (k + j) + _; omega)
theorem totD_le (ds : List (List Int)) {k n : Nat} (h : k ≤ n) : totD ds k ≤ totD ds n := by
  have := totD_mono ds k (n - k)
  rwa [show k + (n - k) = n by omega] at this
theorem totD_at (ds : List (List Int)) {k n : Nat} (h : k < n) : totD ds k + (ds.getD k []).length ≤ totD ds n := totD_le ds (k := k + 1) h
/-- v is a list of dice that read as the lists -/
def SlD (w : World) (v : Value) (ds : List (List Int)) : Prop := ∃ p cap, v = .slice p ds.length cap ∧ (0 < ds.length → ds.length ≤ cap ∧ ∃ b off, p = some ⟨b, off, none⟩ ∧ b < w.heap.size ∧ ∀ i, i < ds.length → ∃ s, w.cell? ⟨b, off + i, none⟩ = some s ∧ Sl (Value.int .i64) 0 w s (ds.getD i []))
theorem SlD.later {w w' : World} {v : Value} {ds : List (List Int)} (h : SlD w v ds) (hb : Below w.heap.size w w') : SlD w' v ds := by
  obtain ⟨p, cap, rfl, h⟩ := h
  refine ⟨p, cap, rfl, fun h0 => ?_⟩
  obtain ⟨hcap, b, off, rfl, hbs, hc⟩ := h h0
  exact ⟨hcap, b, off, rfl, Nat.lt_of_lt_of_le hbs hb.size, fun i hi => by obtain ⟨s, h1, h2⟩ := hc i hi; exact ⟨s, by rw [hb.cell hbs]; exact h1, h2.later hb⟩⟩
/-- .. of the call's own, whose cells lie from lo to below hi, the faces of each die apart from those of the others -/
def SwD (w : World) (v : Value) (ds : List (List Int)) (lo hi : Nat) : Prop := ∃ p cap, v = .slice p ds.length cap ∧ (0 < ds.length → ds.length ≤ cap ∧ ∃ b, p = some ⟨b, 0, none⟩ ∧ lo ≤ b ∧ hi ≤ w.heap.size ∧ ∃ B : Nat → Nat, b < B 0 ∧ (∀ i, i < ds.length → B i ≤ B (i + 1)) ∧ B ds.length ≤ hi ∧ ∀ i, i < ds.length → ∃ s, w.cell? ⟨b, i, none⟩ = some s ∧ Sw (Value.int .i64) 0 w s (ds.getD i []) (B i) (B (i + 1)))
theorem bounds_le {B : Nat → Nat} {n : Nat} (h : ∀ i, i < n → B i ≤ B (i + 1)) : ∀ j i, i + j ≤ n → B i ≤ B (i + j)
  | 0, _, _ => Nat.le_refl _
  | j + 1, i, hj => Nat.le_trans (bounds_le h j i (by omega)) (h (i + j) (by omega))
theorem SwD.sl {w : World} {v : Value} {ds : List (List Int)} {lo hi : Nat} (h : SwD w v ds lo hi) : SlD w v ds := by
  obtain ⟨p, cap, rfl, h⟩ := h
  refine ⟨p, cap, rfl, fun h0 => ?_⟩
  obtain ⟨hcap, b, rfl, h1, h2, B, h3, h4, h5, hc⟩ := h h0
  have := bounds_le h4 ds.length 0 (by omega)
  rw [Nat.zero_add] at this
  exact ⟨hcap, b, 0, rfl, by omega, fun i hi => by obtain ⟨s, g1, g2⟩ := hc i hi; exact ⟨s, by rw [Nat.zero_add]; exact g1, g2.sl⟩⟩
theorem SwD.later {w w' : World} {v : Value} {ds : List (List Int)} {lo hi : Nat} (h : SwD w v ds lo hi) (hb : Below w.heap.size w w') : SwD w' v ds lo hi := by
  obtain ⟨p, cap, rfl, h⟩ := h
  refine ⟨p, cap, rfl, fun h0 => ?_⟩
  obtain ⟨hcap, b, rfl, h1, h2, B, h3, h4, h5, hc⟩ := h h0
  have := bounds_le h4 ds.length 0 (by omega)
  rw [Nat.zero_add] at this
  have := hb.size
  exact ⟨hcap, b, rfl, h1, by omega, B, h3, h4, h5, fun i hi => by obtain ⟨s, g1, g2⟩ := hc i hi; exact ⟨s, by rw [hb.cell (by show b < _; omega)]; exact g1, g2.later hb⟩⟩
theorem SwD.apart {w w' : World} {v : Value} {ds : List (List Int)} {lo hi l2 h2 : Nat} (h : SwD w v ds lo hi) (g : Only l2 h2 w w') (ha : hi ≤ l2 ∨ h2 ≤ lo) : SwD w' v ds lo hi := by
  obtain ⟨p, cap, rfl, h⟩ := h
  refine ⟨p, cap, rfl, fun h0 => ?_⟩
  obtain ⟨hcap, b, rfl, h1, h2', B, h3, h4, h5, hc⟩ := h h0
  have e0 := bounds_le h4 ds.length 0 (by omega)
  rw [Nat.zero_add] at e0
  refine ⟨hcap, b, rfl, h1, by rw [g.size]; exact h2', B, h3, h4, h5, fun i hi' => ?_⟩
  obtain ⟨s, g1, g2⟩ := hc i hi'
  have e1 := bounds_le h4 i 0 (by omega)
  have e2 := bounds_le h4 (ds.length - (i + 1)) (i + 1) (by omega)
  rw [Nat.zero_add] at e1
  rw [show i + 1 + (ds.length - (i + 1)) = ds.length by omega] at e2
  exact ⟨s, (World.cell?_of_block (a := ⟨b, i, none⟩) (g.block b (by omega))).trans g1, g2.apart g (by omega)⟩
theorem SwD.still {w w' : World} {v : Value} {ds : List (List Int)} {lo hi : Nat} (h : SwD w v ds lo hi) (g : Only 0 0 w w') : SwD w' v ds lo hi := h.apart g (.inr (Nat.zero_le _))

theorem grown_of_below' {w w' : World} (h : Below w.heap.size w w') : w.grownBy w' none := ⟨h.os, h.tape, h.output, h.size, fun i hi _ => h.block i hi⟩
set_option maxHeartbeats 1000000 in
theorem szDs_any (ds : List (List Int)) (v : Value) (left : Int) (w : World) (hn : ds.length ≤ maxLen) (hm : ∀ i, i < ds.length → (ds.getD i []).length ≤ maxLen) (h : SlD w v ds) (h1 : left ≤ 1048576) (h0 : 0 ≤ left) :
    Calls Try.prog 71 #[v, .int .i64 left] w fun e w' => e = .returned (.int .i64 (szV (ds.length + totD ds ds.length) left)) ∧ Below w.heap.size w w' := by
  obtain ⟨p, cap, rfl, hf⟩ := h
  have Hf := Lib.hid hf
  have Hm := Lib.hid hm
  clear hf hm
  have Ht := Lib.hid (fun k n (h : k < n) => totD_at ds (k := k) (n := n) h)
  have Hst := Lib.hid (fun k => show totD ds (k + 1) = totD ds k + (ds.getD k []).length from rfl)
  have Hz := Lib.hid (fun fs v' left w hn h h1 h0 => szDie_any fs v' left w hn h h1 h0)
  have HE := Lib.hid (show ∀ a : Nat, left - a < 0 → szV a left = -1 from fun a h => if_pos h)
  have HF := Lib.hid (show ∀ a : Nat, ¬ left - a < 0 → szV a left = left - a from fun a h => if_neg h)
  have HG := Lib.hid (show ∀ (a : Nat) (l : Int), l - a < 0 → szV a l = -1 from fun a l h => if_pos h)
  have HH := Lib.hid (show ∀ (a : Nat) (l : Int), ¬ l - a < 0 → szV a l = l - a from fun a l h => if_neg h)
  have hz0 : totD ds 0 = 0 := rfl
  unfold maxLen at hn
  obtain ⟨n, hn1⟩ : ∃ n, n = ds.length := ⟨_, rfl⟩
  rw [← hn1] at hn Hf Hm ⊢
  clear hn1
  by_cases hb : left - n < 0
  · have E := Lib.hid (HE.out (n + totD ds n) (by omega))
    rw [E.out]
    go_enter Try.func71, Try.ntmps71
    go_wp2
    go_ret
    exact ⟨rfl, Below.refl _ _⟩
  · go_enter Try.func71, Try.ntmps71
    go_wp2
    go_loopw [1, 5] (fun l i wr => ∃ k : Nat, k ≤ n ∧ i = .int .i64 (k : Int) ∧ l = .int .i64 (left - n - totD ds k) ∧ 0 ≤ left - n - totD ds k ∧ Hid (Below w.heap.size w wr)) (fun _ i _ => n - (intOf i).toNat)
    case atStart => exact ⟨0, Nat.zero_le _, rfl, by rw [hz0]; go_num, by rw [hz0]; omega, Lib.hid (Below.refl _ _)⟩
    case round =>
      obtain ⟨k, hk, rfl, rfl, hpos, Hb⟩ := hrel
      by_cases hlt : k < n
      · obtain ⟨hcap, b, off, rfl, hbs, hcell⟩ := Hf.out (by omega)
        obtain ⟨s, g1, g2⟩ := hcell k hlt
        have c1 := cell_keep Hb.out g1
        have hst := Hst.out k
        have hta := Ht.out k n hlt
        have Hcall := Lib.hid (Hz.out (ds.getD k []) (.agg #[s]) (left - n - totD ds k) wr (Hm.out k hlt) ⟨s, rfl, g2.later Hb.out⟩ (by omega) hpos)
        clear hcell g1 g2
        generalize (ds.getD k []).length = L at *
        by_cases hneg : left - n - totD ds k - L < 0
        · have E1 := HG.out L (left - n - totD ds k) (by omega)
          rw [E1] at Hcall
          have E := Lib.hid (HE.out (n + totD ds n) (by omega))
          generalize hX : left - (n : Int) - (totD ds k : Int) = X at *
          clear E1 hneg HE HF HG HH
          go_wp2_with (refine (Hcall.out).mono ?_; rintro e w' ⟨rfl, hb2⟩; have Hb2 := Lib.hid (Hb.out.trans (hb2.mono Hb.out.size)); clear hb2)
          go_ret
          exact ⟨ret_int E.out.symm, Hb2.out⟩
        · have E1 := HH.out L (left - n - totD ds k) (by omega)
          rw [E1] at Hcall
          have E2 := Lib.hid (show left - (n : Int) - (totD ds k : Int) - (L : Int) = left - n - totD ds (k + 1) by rw [hst]; omega)
          clear E1
          rw [E2.out] at Hcall hneg
          generalize hX : left - (n : Int) - (totD ds k : Int) = X at *
          generalize hY : left - (n : Int) - (totD ds (k + 1) : Int) = Y at *
          have HY := Lib.hid hY
          have hX1 : X ≤ 1048576 := by omega
          have hY1 : Y ≤ 1048576 := by omega
          have hY0 : 0 ≤ Y := by omega
          clear hX hY hst hta E2 hneg
          go_wp2_with (refine (Hcall.out).mono ?_; rintro e w' ⟨rfl, hb2⟩; have Hb2 := Lib.hid (Hb.out.trans (hb2.mono Hb.out.size)); clear hb2)
          go_roundw
          case rel => exact ⟨k + 1, by omega, by go_num, by rw [HY.out], by rw [HY.out]; exact hY0, Hb2⟩
          case measure => simp [intOf]; omega
      · obtain rfl : k = n := by omega
        have E := HF.out (k + totD ds k) (by omega)
        have E2 := Lib.hid (show left - (k : Int) - (totD ds k : Int) = szV (k + totD ds k) left by rw [E]; omega)
        clear E
        go_wp2
        go_ret
        exact ⟨ret_int E2.out, Hb.out⟩

/-- the row of a list of dice, of which k are laid -/
def rowD (S : Nat → Value) (n k : Nat) : List Value := (List.range n).map fun i => if i < k then S i else .slice none 0 0
theorem rowD_len (S : Nat → Value) (n k : Nat) : (rowD S n k).length = n := by simp [rowD]
theorem rowD_get (S : Nat → Value) (n k i : Nat) (h : i < n) : (rowD S n k)[i]? = some (if i < k then S i else .slice none 0 0) := by simp [rowD, h]
theorem rowD_set (S : Nat → Value) (n k : Nat) (v : Value) : (rowD S n k).set k v = rowD (fun i => if i = k then v else S i) n (k + 1) := by
  apply List.ext_getElem
  · simp [rowD]
  · intro i h1 h2
    simp only [rowD, List.getElem_set, List.getElem_map, List.getElem_range]
    by_cases e : k = i
    · subst e; simp
    · rw [if_neg e]
      by_cases e2 : i < k
      · rw [if_pos e2, if_pos (by omega), if_neg (fun h => e h.symm)]
      · rw [if_neg e2, if_neg (by omega)]
theorem rowD_zero (S : Nat → Value) (n : Nat) : (madeCells (Value.agg #[.slice none 0 0]).cells (n * 1)).toList = rowD S n 0 := by
  rw [Nat.mul_one]
  show (madeCells #[Value.slice none 0 0] n).toList = _
  rw [made1]
  apply List.ext_getElem
  · simp [rowD]
  · intro i h1 h2
    simp [rowD]

set_option maxRecDepth 100000 in
set_option maxHeartbeats 2000000 in
theorem toDs_any (ds : List (List Int)) (v : Value) (w : World) (hn : ds.length ≤ 1048576) (hm : totD ds ds.length ≤ 1048576) (h : SlD w v ds) :
    Calls Try.prog 73 #[v] w fun e w' => ∃ v', e = .returned v' ∧ SwD w' v' ds w.heap.size w'.heap.size ∧ Below w.heap.size w w' := by
  obtain ⟨p, cap, rfl, hf⟩ := h
  obtain ⟨i0, hi, hz0, hz1, hz2⟩ := info_parts (show (Try.prog.info? 93).map (fun i => (i.zero, i.size, i.bytes)) = some (some (Value.agg #[.slice none 0 0]), 1, 24) by kernel_rfl)
  have Hf := Lib.hid hf
  clear hf
  have Hm := Lib.hid (fun k (h : k < ds.length) => show (ds.getD k []).length ≤ 1048576 by have := totD_at ds h; omega)
  have Hto := Lib.hid (fun fs v w hn h => toDie_any fs v w hn h)
  clear hm
  generalize hlen : ds.length = n at *
  have Hlen := Lib.hid hlen
  clear hlen
  go_enter Try.func73, Try.ntmps73
  go_wp2_with (at_make; refine wpList_make_full _ rfl _ _ 40 rfl w.heap.size 93 i0 (Value.agg #[.slice none 0 0]) 1 (by kernel_rfl) hi hz0 hz1 .i64 .i64 n n n rfl rfl rfl rfl (by rw [hz2]; omega) (by unfold maxLen; omega) (Nat.le_refl _) ?_; intro w1 hown hgrow)
  have hbel : Below w.heap.size w w1 := (Below.refl _ w).grown hgrow (Nat.le_refl _) (by simp)
  rw [rowD_zero (fun _ => .slice none 0 0)] at hown
  have Hown := Lib.hid hown
  have Hbel := Lib.hid hbel
  have hs1 : w.heap.size < w1.heap.size := (hown.lt _ rfl).2
  clear hown hbel hgrow
  go_loopw [4] (fun i wr => ∃ (k : Nat) (S : Nat → Value) (B : Nat → Nat), k ≤ n ∧ i = .int .i64 k ∧ Hid (wr.ownsRow w.heap.size 93 1 (.slice (some ⟨w.heap.size, 0, none⟩) n n) n (rowD S n k)) ∧ Hid (w.heap.size < B 0 ∧ (∀ i, i < k → B i ≤ B (i + 1)) ∧ B k ≤ wr.heap.size ∧ ∀ i, i < k → Sw (Value.int .i64) 0 wr (S i) (ds.getD i []) (B i) (B (i + 1))) ∧ Hid (Below w.heap.size w wr)) (fun i _ => n - (intOf i).toNat)
  case atStart => exact ⟨0, fun _ => .slice none 0 0, fun _ => w1.heap.size, Nat.zero_le _, rfl, Hown, Lib.hid ⟨hs1, fun i h => by omega, Nat.le_refl _, fun i h => by omega⟩, Hbel⟩
  case round =>
    obtain ⟨k, S, B, hk, rfl, hown, hB, hb⟩ := hrel
    have hsz := hb.out.size
    have hs2 : w.heap.size < wr.heap.size := (hown.out.lt _ rfl).2
    by_cases hlt : k < n
    · obtain ⟨hcap, b, off, rfl, hbs, hc⟩ := Hf.out (by omega)
      obtain ⟨s, g1, g2⟩ := hc k hlt
      have c1 := cell_keep hb.out g1
      obtain ⟨fk, hfk⟩ : ∃ fk, fk = ds.getD k [] := ⟨_, rfl⟩
      have Hcall := Lib.hid (Hto.out (ds.getD k []) (.agg #[s]) wr (Hm.out k hlt) ⟨s, rfl, g2.later hb.out⟩)
      rw [← hfk] at Hcall
      have Hfk := Lib.hid hfk
      clear hc g1 g2 hfk
      go_wp2_with (refine (Hcall.out).mono ?_; rintro e w2 ⟨v2, rfl, ⟨s2, rfl, hs⟩, hb2⟩; have Hs := Lib.hid hs; obtain ⟨p2, cap2, rfl, -⟩ := hs; have hown2 := hown.out.kept (grown_of_below' hb2) (.inr (fun e => by cases e)); have c2 : w2.cell? ⟨w.heap.size, k, none⟩ = some (.slice none 0 0) := (by rw [hown2.cellAt k (by omega), rowD_get _ _ _ _ hlt, if_neg (Nat.lt_irrefl k)]); have c3 := hown2.frozenAt k; obtain ⟨hst, _⟩ := hown2.stored k (.slice p2 fk.length cap2); rw [rowD_set] at hst; have Hst := Lib.hid hst; have Hb2 := Lib.hid hb2; have hz2' := hb2.size; clear hst hown2 hb2)
      go_roundw
      case rel =>
        refine ⟨k + 1, fun i => if i = k then .slice p2 fk.length cap2 else S i, fun i => if i = k + 1 then w2.heap.size else if i = k then wr.heap.size else B i, by omega, by go_num, Hst, ?_, Lib.hid ((hb.out.trans (Hb2.out.mono hsz)).setCell (Nat.le_refl _) _)⟩
        obtain ⟨q0, q1, q2, q3⟩ := hB.out
        have qB := bounds_le q1
        refine Lib.hid ⟨?_, fun i hi => ?_, ?_, fun i hi => ?_⟩
        · show w.heap.size < if 0 = k + 1 then _ else if 0 = k then _ else B 0
          rw [if_neg (by omega)]
          by_cases e : 0 = k
          · rw [if_pos e]; exact hs2
          · rw [if_neg e]; exact q0
        · show (if i = k + 1 then _ else if i = k then _ else B i) ≤ if i + 1 = k + 1 then _ else if i + 1 = k then _ else B (i + 1)
          rw [if_neg (by omega)]
          by_cases e : i = k
          · subst e; rw [if_pos rfl, if_pos rfl]; exact hz2'
          · rw [if_neg e, if_neg (by omega)]
            by_cases e2 : i + 1 = k
            · rw [if_pos e2]
              have := q1 i (by omega)
              rw [e2] at this; omega
            · rw [if_neg e2]; exact q1 i (by omega)
        · show (if k + 1 = k + 1 then _ else _) ≤ _
          rw [if_pos rfl]; simp
        · show Sw _ _ _ (if i = k then _ else S i) (ds.getD i []) (if i = k + 1 then _ else if i = k then _ else B i) (if i + 1 = k + 1 then _ else if i + 1 = k then _ else B (i + 1))
          rw [if_neg (show ¬ i = k + 1 by omega)]
          by_cases e : i = k
          · subst e
            rw [if_pos rfl, if_pos rfl, if_pos rfl, ← Hfk.out]
            exact Hs.out.apart ((Only.refl 0 wr.heap.size w2).step' _ _ (Nat.zero_le _) hs2) (.inr (Nat.le_refl _))
          · rw [if_neg e, if_neg e, if_neg (show ¬ i + 1 = k + 1 by omega)]
            have h1 := (q3 i (by omega)).later Hb2.out
            have h0 := qB i 0 (by omega)
            rw [Nat.zero_add] at h0
            have h2 : Sw (Value.int .i64) 0 (w2.setCell ⟨w.heap.size, k, none⟩ (.slice p2 fk.length cap2)) (S i) (ds.getD i []) (B i) (B (i + 1)) := h1.apart ((Only.refl 0 (w.heap.size + 1) w2).step' _ _ (Nat.zero_le _) (Nat.lt_succ_self _)) (.inr (by omega))
            by_cases e2 : i + 1 = k
            · rw [if_pos e2]
              have h3 := q2
              rw [← e2] at h3
              exact h2.mono (Nat.le_refl _) h3 (by simp; omega)
            · rw [if_neg e2]; exact h2
      case measure => simp [intOf]; omega
    · obtain rfl : k = n := by omega
      go_wp2
      go_ret
      refine ⟨_, rfl, ⟨_, k, by rw [Hlen.out]; rfl, fun h0 => ⟨by rw [Hlen.out]; exact Nat.le_refl _, w.heap.size, rfl, Nat.le_refl _, Nat.le_refl _, B, ?_⟩⟩, hb.out⟩
      obtain ⟨q0, q1, q2, q3⟩ := hB.out
      rw [Hlen.out]
      refine ⟨q0, q1, q2, fun i hi => ⟨S i, ?_, q3 i hi⟩⟩
      rw [hown.out.cellAt i (by omega), rowD_get _ _ _ _ hi, if_pos hi]

set_option maxRecDepth 100000 in
set_option maxHeartbeats 2000000 in
theorem eqDs_any (ds : List (List Int)) (v u : Value) (w : World) (hn : ds.length ≤ 1048576) (hm : totD ds ds.length ≤ 1048576) (h : SlD w v ds) (g : SlD w u ds) :
    Calls Try.prog 76 #[v, u] w fun e w' => e = .returned (.bool true) ∧ Below w.heap.size w w' := by
  obtain ⟨p, cap, rfl, hf⟩ := h
  obtain ⟨q, cap', rfl, hg⟩ := g
  have Hf := Lib.hid hf
  have Hg := Lib.hid hg
  clear hf hg
  have Hm := Lib.hid (fun k (h : k < ds.length) => show (ds.getD k []).length ≤ 1048576 by have := totD_at ds h; omega)
  have He := Lib.hid (fun fs v u w hn h g => eqDie_any fs v u w hn h g)
  clear hm
  obtain ⟨n, hn1⟩ : ∃ n, n = ds.length := ⟨_, rfl⟩
  rw [← hn1] at hn Hf Hg Hm
  rw [← hn1]
  clear hn1
  have hne : ((n : Int) != (n : Int)) = false := by simp
  go_enter Try.func76, Try.ntmps76
  go_wp2
  go_loopw [5] (fun i wr => ∃ k : Nat, k ≤ n ∧ i = .int .i64 k ∧ Hid (Below w.heap.size w wr)) (fun i _ => n - (intOf i).toNat)
  case atStart => exact ⟨0, Nat.zero_le _, rfl, Lib.hid (Below.refl _ _)⟩
  case round =>
    obtain ⟨k, hk, rfl, hb⟩ := hrel
    have hsz := hb.out.size
    by_cases hlt : k < n
    · obtain ⟨hcap, b, off, rfl, hbs, hc⟩ := Hf.out (by omega)
      obtain ⟨hcap', b', off', rfl, hbs', hc'⟩ := Hg.out (by omega)
      obtain ⟨s, g1, g2⟩ := hc k hlt
      obtain ⟨t, g1', g2'⟩ := hc' k hlt
      have c1 := cell_keep hb.out g1
      have c2 := cell_keep hb.out g1'
      have Hcall := Lib.hid (fun z (hz : Below wr.heap.size wr z) => He.out (ds.getD k []) (.agg #[s]) (.agg #[t]) z (Hm.out k hlt) ⟨s, rfl, (g2.later hb.out).later hz⟩ ⟨t, rfl, (g2'.later hb.out).later hz⟩)
      clear hc g1 g2 hc' g1' g2'
      go_wp2
      go_region_law (first | (go_simp; go_at_call 130; refine (Hcall.out _ (below_drewN (Below.refl _ _) _)).mono ?_; rintro e w2 ⟨rfl, hb2⟩; have Hb2 : Hid (Below w.heap.size w w2) := Lib.hid ((below_drewN hb.out _).trans (hb2.mono hsz)); clear hb2))
      all_goals
        go_wp2
        go_roundw
        case rel => exact ⟨k + 1, by omega, by go_num, Hb2⟩
        case measure => simp [intOf]; omega
    · obtain rfl : k = n := by omega
      go_wp2
      go_ret
      exact ⟨rfl, hb.out⟩

