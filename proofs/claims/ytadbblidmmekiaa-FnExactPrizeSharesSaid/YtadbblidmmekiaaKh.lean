/- Contracts: chances of places, the model. -/
import Derived.Test.YtadbblidmmekiaaKg
set_option linter.unusedVariables false
namespace Go.Proofs.Ytadbblidmmekiaa
open Go.RowKit Fl

set_option maxRecDepth 100000 in
set_option maxHeartbeats 4000000 in
theorem pc_spec (fs : List Int) (v : Value) (w : World) (hB : stackB fs = true) (h : Sl (Value.int .i64) 0 w v fs) :
    Calls Try.prog 47 #[v] w fun e w' => ∃ r, e = .returned (.tuple #[r, .bool true]) ∧ SwF w' r (allC fs fs.length) w.heap.size w'.heap.size ∧ Below w.heap.size w w' := by
  obtain ⟨n1, n6, hpos⟩ := stackB_yes hB
  have Har := Lib.hid (stacks_spec fs v w (by omega) h)
  rw [hB] at Har
  have Hpl : Hid (∀ (a c : Nat) (u : Value) (lo hi : Nat) (z : World), Below w.heap.size w z → a < fs.length → c < fs.length → w.heap.size ≤ lo → Sw Value.bool false z u (List.replicate fs.length true) lo hi → Calls Try.prog 85 #[v, u, .int .i64 (a : Int), .int .i64 (c : Int)] z fun e w' => ∃ r, e = .returned (.float .f32 r) ∧ Is (plc a c fs) r ∧ Sw Value.bool false w' u (List.replicate fs.length true) lo hi ∧ Only lo hi z w') := Lib.hid (fun a c u lo hi z hz ha hc hlo hs => by
      have := place_spec a c fs v w n6 ha hpos h (List.replicate fs.length true) u lo hi z (by simp) (by simp [List.getD, ha]) (by omega) hz hlo hs
      rw [msk_all] at this
      exact this)
  have Hnx := Lib.hid (partC_next fs)
  have Hdn := Lib.hid (partC_done fs)
  have Hln := Lib.hid (partC_len fs)
  have Hal : Hid (partC fs fs.length 0 = allC fs fs.length) := Lib.hid (by simp [partC])
  have H00 : Hid (partC fs 0 0 = []) := Lib.hid rfl
  obtain ⟨p, cap, rfl, hf⟩ := h
  clear hf hB hpos
  obtain ⟨i0, hi, hz0, hz1, hzB⟩ := info_parts (show (Try.prog.info? 55).map (fun i => (i.zero, i.size, i.bytes)) = some (some (.float .f32 0), 1, 4) by kernel_rfl)
  obtain ⟨j0, ji, jz0, jz1, jz2⟩ := info_parts (show (Try.prog.info? 4).map (fun i => (i.zero, i.size, i.bytes)) = some (some (.bool false), 1, 1) by kernel_rfl)
  generalize allC fs fs.length = R at *
  generalize fs.length = n at *
  go_enter Try.func47, Try.ntmps47
  go_wp2_with fail
  refine Har.out.mono ?_
  rintro e w' ⟨rfl, rfl⟩
  go_wp2
  go_loopw [4, 14] (fun l i wr => ∃ (k : Nat) (lv : Value), lv = l ∧ k ≤ n ∧ i = .int .i64 (k : Int) ∧ Hid (wr.ownsRow w.heap.size 4 1 l k ((List.replicate k true).map Value.bool)) ∧ Below w.heap.size w wr) (fun _ i _ => n - (intOf i).toNat)
  case atStart => exact ⟨0, _, rfl, Nat.zero_le _, rfl, Lib.hid (World.ownsRow_made w #[] 0 (Nat.le_refl _) (Nat.zero_le _) rfl), (Below.refl _ _).alloc (Nat.le_refl _) _⟩
  case round =>
    obtain ⟨k, lv, rfl, hk, rfl, hown, hb⟩ := hrel
    have Hb := Lib.hid hb
    have hsz := hb.size
    clear hb
    by_cases hlt : k < n
    · go_wp2_with (at_builtin; refine wpList_append_own _ rfl _ _ 70 rfl w.heap.size 4 j0 (.bool false) 1 1 (by kernel_rfl) ji jz0 jz1 jz2 rfl (by decide) _ _ _ rfl (hown.out.alloc _) ⟨wr.heap.size, 0, none⟩ 1 1 [.bool true] rfl rfl (cell_one_new _ _ _) (one_bool _) (by unfold maxLen; omega) (by omega) (by simp; omega) ?_; intro v2 w2 hown2 hgrow2 _)
      have Hown2 : Hid (w2.ownsRow w.heap.size 4 1 v2 (k + 1) ((List.replicate (k + 1) true).map Value.bool)) := Lib.hid (by
        rw [List.replicate_succ', List.map_append]; exact hown2)
      have Hb2 := Lib.hid ((Hb.out.alloc (by omega) _).grown hgrow2 (by simp; omega) (fun b hb => (hown.out.lt b hb).1))
      clear hown2 hgrow2
      go_wp2
      go_roundw
      case rel => exact ⟨k + 1, _, rfl, by omega, by go_num, Hown2, Hb2.out⟩
      case measure => simp [intOf]; omega
    · obtain rfl : k = n := by omega
      have hsw := Sw.of_owns (mk := Value.bool) (d := false) hown.out (by simp)
      obtain ⟨wo, rfl⟩ : ∃ wo : World, wo = wr := ⟨_, rfl⟩
      have Hsw0 := Lib.hid (hsw.low ((Below.refl wo.heap.size wo).alloc (Nat.le_refl _) (.cells #[] 55)) (Nat.le_refl _))
      clear hsw hown
      go_wp2
      go_loopw [5, 23] (fun out i wr => ∃ a : Nat, a ≤ k ∧ i = .int .i64 (a : Int) ∧ Hid (Sw Value.bool false wr lv (List.replicate k true) w.heap.size wo.heap.size) ∧ Hid (OwnF wr wo.heap.size out (partC fs a 0)) ∧ Below w.heap.size w wr ∧ wo.heap.size ≤ wr.heap.size) (fun _ i _ => k - (intOf i).toNat)
      case atStart => exact ⟨0, Nat.zero_le _, rfl, Hsw0, Lib.hid (by rw [H00.out]; exact ⟨[], rfl, World.ownsRow_made wo #[] 0 (Nat.le_refl _) (Nat.zero_le _) rfl⟩), Hb.out.alloc hsz _, by simp⟩
      case round =>
        obtain ⟨a, ha, rfl, hls, how, hb, hzz⟩ := hrel
        have Hb := Lib.hid hb
        clear hb Hsw0
        by_cases hlt : a < k
        · obtain ⟨wi, rfl⟩ : ∃ wi : World, wi = wr := ⟨_, rfl⟩
          go_wp2
          go_loopw [5, 28] (fun out i wr => ∃ c : Nat, c ≤ k ∧ i = .int .i64 (c : Int) ∧ Hid (Sw Value.bool false wr lv (List.replicate k true) w.heap.size wo.heap.size) ∧ Hid (OwnF wr wo.heap.size out (partC fs a c)) ∧ Below w.heap.size w wr ∧ wo.heap.size ≤ wr.heap.size) (fun _ i _ => k - (intOf i).toNat)
          case atStart => exact ⟨0, Nat.zero_le _, rfl, hls, how, Hb.out, hzz⟩
          case round =>
            obtain ⟨c, hc, rfl, hls2, how2, hb, hz2⟩ := hrel
            have Hb2 := Lib.hid hb
            clear hb
            by_cases hlt2 : c < k
            · have Hl := Lib.hid (Hln.out a c)
              have hl : (partC fs a c).length ≤ 42 := by
                rw [Hl.out]
                have : a * k ≤ 6 * 6 := Nat.mul_le_mul (by omega) n6
                omega
              have Hn := Lib.hid (Hnx.out a c)
              generalize hC : partC fs a c = C at *
              have HC := Lib.hid hC
              clear hC
              go_wp2_with fail
              refine (Hpl.out a c _ _ _ _ Hb2.out hlt hlt2 (Nat.le_refl _) hls2.out).mono ?_
              rintro e w1 ⟨r, rfl, hr, hs1, ho1⟩
              obtain ⟨gs, eg, hown⟩ := how2.out.only ho1 (Nat.le_refl _)
              have Hown := Lib.hid hown
              have Hr := Lib.hid hr
              have Eg := Lib.hid eg
              have Hs1 := Lib.hid hs1
              have Hb3 := Lib.hid (Below.only Hb2.out ho1 (Nat.le_refl _))
              have hz3 := Hb3.out.size
              have hz4 : wo.heap.size ≤ w1.heap.size := by rw [ho1.size]; exact hz2
              clear hown hr eg hs1 ho1
              go_wp2_with (at_builtin; refine wpList_append_own _ rfl _ _ 23 rfl wo.heap.size 55 i0 (.float .f32 0) 1 4 (by kernel_rfl) hi hz0 hz1 hzB rfl (by decide) _ _ _ rfl (Hown.out.alloc _) ⟨w1.heap.size, 0, none⟩ 1 1 [.float .f32 r] rfl rfl (cell_one_new _ _ _) (one_flt _) (by unfold maxLen; omega) (by omega) (by simp; omega) ?_; intro v2 w2 hown2 hgrow2 _)
              have Hown2 := Lib.hid (OwnF.snoc Eg.out Hr.out hown2)
              have Hb4 := Lib.hid ((Hb3.out.alloc (by omega) (.cells #[.float .f32 r] 55)).grown hgrow2 (by simp; omega) (fun b hb => Nat.le_trans hsz (Hown.out.lt b hb).1))
              have hlow := (((Below.refl wo.heap.size w1).alloc (by omega) (.cells #[.float .f32 r] 55)).grown hgrow2 (by simp; omega) (fun b hb => (Hown.out.lt b hb).1))
              have Hs2 := Lib.hid (Hs1.out.low hlow (Nat.le_refl _))
              have hz5 := hlow.size
              clear hown2 hgrow2 hlow
              go_wp2
              go_roundw
              case rel => exact ⟨c + 1, by omega, by go_num, Hs2, Lib.hid (by rw [Hn.out]; exact Hown2.out), Hb4.out, by omega⟩
              case measure => simp [intOf]; omega
            · obtain rfl : c = k := by omega
              have how3 : Hid (OwnF wr wo.heap.size _ (partC fs (a + 1) 0)) := Lib.hid (by rw [← Hdn.out]; exact how2.out)
              go_wp2
              go_roundw
              case rel => exact ⟨a + 1, by omega, by go_num, hls2, how3, Hb2.out, hz2⟩
              case measure => simp [intOf]; omega
        · obtain rfl : a = k := by omega
          go_wp2
          go_ret2
          exact ⟨_, rfl, by
            rw [← Hal.out]
            obtain ⟨gs, eg, hg⟩ := how.out.sw
            exact ⟨gs, eg, hg.mono hsz (Nat.le_refl _) (Nat.le_refl _)⟩, Hb.out⟩
end Go.Proofs.Ytadbblidmmekiaa
