/- Contracts: chances of places, whole, in both texts. -/
import Derived.Test.YtadbblidmmekiaaKe
import Derived.Test.YtadbblidmmekiaaKf
import Derived.Test.YtadbblidmmekiaaKb
import Derived.Maps.AppendAt
set_option linter.unusedVariables false
namespace Go.Proofs.Ytadbblidmmekiaa
open Go.RowKit Fl


def OwnF (w : World) (base : Nat) (v : Value) (C : List Nat) : Prop := ∃ gs : List Nat, gs.map (cn .f32) = C ∧ w.ownsRow base 55 1 v C.length (gs.map (Value.float .f32))
theorem OwnF.keep {w w' : World} {base : Nat} {v : Value} {C : List Nat} (h : OwnF w base v C) (hk : ∀ k, base ≤ k → k < w.heap.size → w'.heap[k]? = w.heap[k]?) : OwnF w' base v C := by
  obtain ⟨gs, e, h1, h2⟩ := h
  refine ⟨gs, e, h1, ?_⟩
  rcases h2 with hn | ⟨g, cap, cur, rfl, hb, hgg, rest⟩
  · exact .inl hn
  · exact .inr ⟨g, cap, cur, rfl, hb, (hk g hb (Array.getElem?_eq_some_iff.1 hgg).1).trans hgg, rest⟩
theorem OwnF.below {w w' : World} {base : Nat} {v : Value} {C : List Nat} (h : OwnF w base v C) (hb : Below w.heap.size w w') : OwnF w' base v C := h.keep fun k _ hk => hb.block k hk
theorem OwnF.only {w w' : World} {base lo hi : Nat} {v : Value} {C : List Nat} (h : OwnF w base v C) (hb : Only lo hi w w') (hh : hi ≤ base) : OwnF w' base v C := h.keep fun k h1 _ => hb.block k (by omega)
theorem OwnF.sw {w : World} {base : Nat} {v : Value} {C : List Nat} (h : OwnF w base v C) : SwF w v C base w.heap.size := by
  obtain ⟨gs, e, h⟩ := h
  exact ⟨gs, e, Sw.of_owns h (by rw [← e, List.length_map])⟩
theorem OwnF.snoc {w2 : World} {base : Nat} {v2 : Value} {C gs : List Nat} {c r : Nat} (e : gs.map (cn .f32) = C) (hr : Is c r) (h : w2.ownsRow base 55 1 v2 (C.length + 1) (gs.map (Value.float .f32) ++ [.float .f32 r])) : OwnF w2 base v2 (C ++ [c]) :=
  ⟨gs ++ [r], by rw [List.map_append, e, ← hr.1]; rfl, by rw [List.length_append, List.map_append]; exact h⟩
theorem one_flt (x : Nat) : ∀ u ∈ [Value.float .f32 x], u.oneCell' = true := by
  intro u hu; rw [List.mem_singleton] at hu; subst hu; rfl
theorem one_bool (x : Bool) : ∀ u ∈ [Value.bool x], u.oneCell' = true := by
  intro u hu; rw [List.mem_singleton] at hu; subst hu; rfl
theorem Sw.low {α : Type} {mk : α → Value} {d : α} {w w' : World} {v : Value} {fs : List α} {lo hi B : Nat} (h : Sw mk d w v fs lo hi) (hb : Below B w w') (hB : hi ≤ B) : Sw mk d w' v fs lo hi := by
  obtain ⟨p, cap, rfl, h⟩ := h
  refine ⟨p, cap, rfl, fun h0 => ?_⟩
  obtain ⟨hcap, b, off, rfl, h1, h2, h3, hc⟩ := h h0
  have := hb.size
  exact ⟨hcap, b, off, rfl, h1, h2, by omega, fun i hi => ⟨by rw [hb.cell (by show b < _; omega)]; exact (hc i hi).1, by rw [hb.frozen (by show b < _; omega)]; exact (hc i hi).2⟩⟩

set_option maxRecDepth 100000 in
set_option maxHeartbeats 4000000 in
theorem pc_impl (fs : List Int) (v : Value) (w : World) (hB : stackB fs = true) (h : Sl (Value.int .i64) 0 w v fs) :
    Calls Try.prog 49 #[v] w fun e w' => ∃ r, e = .returned (.tuple #[r, .bool true]) ∧ SwF w' r (allC fs fs.length) w.heap.size w'.heap.size ∧ Below w.heap.size w w' := by
  obtain ⟨n1, n6, hpos⟩ := stackB_yes hB
  have Hs := Lib.hid h
  have Har := Lib.hid (areStacks_any fs v w (by omega) h)
  rw [hB] at Har
  have Hpl : Hid (∀ (a c : Nat) (z : World), Below w.heap.size w z → a < fs.length → c < fs.length → Calls Try.prog 87 #[v, .int .i64 (a : Int), .int .i64 (c : Int)] z fun e w' => ∃ r, e = .returned (.float .f32 r) ∧ Is (plc a c fs) r ∧ Below z.heap.size z w') := Lib.hid (fun a c z hz ha hc => place_impl a c fs v z n6 ha (by omega) (fun k => by
      by_cases hk : k < fs.length
      · have := hpos k hk; omega
      · rw [show fs.getD k 0 = 0 by simp [List.getD, List.getElem?_eq_none (show fs.length ≤ k by omega)]]; omega) (h.later hz))
  have Hnx := Lib.hid (partC_next fs)
  have Hdn := Lib.hid (partC_done fs)
  have Hln := Lib.hid (partC_len fs)
  have Hal : Hid (partC fs fs.length 0 = allC fs fs.length) := Lib.hid (by simp [partC])
  have H00 : Hid (partC fs 0 0 = []) := Lib.hid rfl
  obtain ⟨p, cap, rfl, hf⟩ := h
  clear hf hB hpos
  obtain ⟨i0, hi, hz0, hz1, hz2⟩ := info_parts (show (Try.prog.info? 55).map (fun i => (i.zero, i.size, i.bytes)) = some (some (.float .f32 0), 1, 4) by kernel_rfl)
  generalize allC fs fs.length = R at *
  generalize fs.length = n at *
  go_enter Try.func49, Try.ntmps49
  go_wp2_with fail
  refine Har.out.mono ?_
  rintro e w' ⟨rfl, rfl⟩
  go_wp2
  go_loopw [4, 12] (fun out i wr => ∃ a : Nat, a ≤ n ∧ i = .int .i64 (a : Int) ∧ Hid (OwnF wr w.heap.size out (partC fs a 0)) ∧ Below w.heap.size w wr) (fun _ i _ => n - (intOf i).toNat)
  case atStart => exact ⟨0, Nat.zero_le _, rfl, Lib.hid (by rw [H00.out]; exact ⟨[], rfl, World.ownsRow_nil _ _ _ _⟩), Below.refl _ _⟩
  case round =>
    obtain ⟨a, ha, rfl, how, hb⟩ := hrel
    have Hb := Lib.hid hb
    clear hb
    by_cases hlt : a < n
    · obtain ⟨wo, rfl⟩ : ∃ wo : World, wo = wr := ⟨_, rfl⟩
      go_wp2
      go_loopw [4, 17] (fun out i wr => ∃ c : Nat, c ≤ n ∧ i = .int .i64 (c : Int) ∧ Hid (OwnF wr w.heap.size out (partC fs a c)) ∧ Below w.heap.size w wr) (fun _ i _ => n - (intOf i).toNat)
      case atStart => exact ⟨0, Nat.zero_le _, rfl, how, Hb.out⟩
      case round =>
        obtain ⟨c, hc, rfl, how2, hb⟩ := hrel
        have Hb2 := Lib.hid hb
        clear hb
        by_cases hlt2 : c < n
        · have Hl := Lib.hid (Hln.out a c)
          have hl : (partC fs a c).length ≤ 42 := by
            rw [Hl.out]
            have : a * n ≤ 6 * 6 := Nat.mul_le_mul (by omega) n6
            omega
          have Hn := Lib.hid (Hnx.out a c)
          generalize hC : partC fs a c = C at *
          have HC := Lib.hid hC
          clear hC
          go_wp2_with fail
          refine (Hpl.out a c _ Hb2.out hlt hlt2).mono ?_
          rintro e w1 ⟨r, rfl, hr, hb1⟩
          obtain ⟨gs, eg, hown⟩ := how2.out.below hb1
          have Hown := Lib.hid hown
          have Hr := Lib.hid hr
          have Eg := Lib.hid eg
          have hsz1 := (below_step Hb2.out hb1 (Nat.le_refl _)).size
          have Hb3 := Lib.hid (below_step Hb2.out hb1 (Nat.le_refl _))
          clear hown hr eg hb1
          go_wp2_with (at_builtin; go_loud (refine wpList_append_own _ rfl _ _ 23 rfl w.heap.size 55 i0 (.float .f32 0) 1 4 (by kernel_rfl) hi hz0 hz1 hz2 rfl (by decide) _ _ _ rfl (Hown.out.alloc _) ⟨w1.heap.size, 0, none⟩ 1 1 [.float .f32 r] rfl rfl (cell_one_new _ _ _) (one_flt _) (by unfold maxLen; omega) (by omega) (by simp; omega) ?_; intro v2 w2 hown2 hgrow2 _))
          have Hown2 := Lib.hid (OwnF.snoc Eg.out Hr.out hown2)
          have Hb4 := Lib.hid ((Hb3.out.alloc (by omega) _).grown hgrow2 (by simp; omega) (fun b hb => (Hown.out.lt b hb).1))
          clear hown2 hgrow2
          go_wp2
          go_roundw
          case rel => exact ⟨c + 1, by omega, by go_num, Lib.hid (by rw [Hn.out]; exact Hown2.out), Hb4.out⟩
          case measure => simp [intOf]; omega
        · obtain rfl : c = n := by omega
          have how3 : Hid (OwnF wr w.heap.size _ (partC fs (a + 1) 0)) := Lib.hid (by rw [← Hdn.out]; exact how2.out)
          go_wp2
          go_roundw
          case rel => exact ⟨a + 1, by omega, by go_num, how3, Hb2.out⟩
          case measure => simp [intOf]; omega
    · obtain rfl : a = n := by omega
      go_wp2
      go_ret2
      exact ⟨_, rfl, by rw [← Hal.out]; exact how.out.sw, Hb.out⟩

end Go.Proofs.Ytadbblidmmekiaa
