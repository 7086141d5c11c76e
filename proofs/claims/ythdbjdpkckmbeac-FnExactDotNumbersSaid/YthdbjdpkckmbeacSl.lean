/- Slices whose elements are one cell each: what a slice reads as, that it stays so in a later world, and the copies and comparisons of the exact laws. -/
import Derived.Test.YthdbjdpkckmbeacNum
import Derived.Lib.Hide
import Derived.Deep.RegionWith
set_option linter.unusedVariables false
namespace Go.Proofs.Ythdbjdpkckmbeac
open Go.RowKit Fl

/-- v is a slice that reads as the list -/
def Sl {α : Type} (mk : α → Value) (d : α) (w : World) (v : Value) (fs : List α) : Prop :=
  ∃ p cap, v = .slice p fs.length cap ∧ (0 < fs.length → ∃ b off, p = some ⟨b, off, none⟩ ∧ b < w.heap.size ∧ ∀ i, i < fs.length → w.cell? ⟨b, off + i, none⟩ = some (mk (fs.getD i d)))
theorem Sl.later {α : Type} {mk : α → Value} {d : α} {w w' : World} {v : Value} {fs : List α} (h : Sl mk d w v fs) (hb : Below w.heap.size w w') : Sl mk d w' v fs := by
  obtain ⟨p, cap, rfl, h⟩ := h
  refine ⟨p, cap, rfl, fun h0 => ?_⟩
  obtain ⟨b, off, rfl, hbs, hc⟩ := h h0
  exact ⟨b, off, rfl, Nat.lt_of_lt_of_le hbs hb.size, fun i hi => by rw [hb.cell hbs]; exact hc i hi⟩

@[go_sem] theorem run_store_float (P : Program) (w : World) (a : Addr) (m : Mode) (k : FloatKind) (b : Nat) : (store a (.float k b) m).run P w = stored P w a (.float k b) m := run_store P w a _ m rfl

theorem getD_lt {α : Type} (fs : List α) (d : α) (k : Nat) (h : k < fs.length) : fs.getD k d = fs[k] := by simp [List.getD, h]
/-- the row of a copy after k rounds -/
def copied {α : Type} (mk : α → Value) (z : Value) (fs : List α) (k : Nat) : List Value := (fs.take k).map mk ++ List.replicate (fs.length - k) z
theorem copied_len {α : Type} (mk : α → Value) (z : Value) (fs : List α) (k : Nat) (h : k ≤ fs.length) : (copied mk z fs k).length = fs.length := by
  unfold copied; simp; omega
theorem copied_at {α : Type} (mk : α → Value) (z : Value) (fs : List α) (k : Nat) (h : k < fs.length) : (copied mk z fs k)[k]? = some z := by
  unfold copied
  have e : ((fs.take k).map mk).length = k := by simp; omega
  rw [List.getElem?_append_right (by omega), e, Nat.sub_self, List.getElem?_replicate, if_pos (by omega)]
theorem made1 (z : Value) (n : Nat) : (madeCells #[z] n).toList = List.replicate n z := by
  apply List.ext_getElem
  · simp [madeCells]
  · intro i h1 h2
    simp [madeCells, Nat.mod_one]
theorem copied_set {α : Type} (mk : α → Value) (z : Value) (fs : List α) (d : α) (k : Nat) (h : k < fs.length) : (copied mk z fs k).set k (mk (fs.getD k d)) = copied mk z fs (k + 1) := by
  unfold copied
  rw [List.set_append_right _ _ (by simp; omega), getD_lt fs d k h, List.take_succ_eq_append_getElem h, List.map_append, List.append_assoc]
  congr 1
  have e : fs.length - k = (fs.length - (k + 1)) + 1 := by omega
  have e2 : k - (List.map mk (List.take k fs)).length = 0 := by simp; omega
  rw [e2, e, List.replicate_succ]
  rfl
theorem copied_done {α : Type} (mk : α → Value) (z : Value) (fs : List α) (d : α) (i : Nat) (h : i < fs.length) : (copied mk z fs fs.length)[i]? = some (mk (fs.getD i d)) := by
  unfold copied
  rw [List.take_length, Nat.sub_self, List.replicate_zero, List.append_nil, List.getElem?_map, getD_lt fs d i h, List.getElem?_eq_getElem h]
  rfl

set_option maxHeartbeats 400000 in
theorem toF_any (fs : List Nat) (v : Value) (w : World) (hn : fs.length ≤ 1048576) (h : Sl (Value.float .f32) 0 w v fs) :
    Calls Try.prog 12 #[v] w fun e w' => ∃ v', e = .returned v' ∧ Sl (Value.float .f32) 0 w' v' fs ∧ Below w.heap.size w w' := by
  obtain ⟨p, cap, rfl, hf⟩ := h
  obtain ⟨i0, hi, hz0, hz1, hz2⟩ := info_parts (show (Try.prog.info? 22).map (fun i => (i.zero, i.size, i.bytes)) = some (some (.float .f32 0), 1, 4) by kernel_rfl)
  have Hf := Lib.hid hf
  clear hf
  generalize hlen : fs.length = n at *
  have Hlen := Lib.hid hlen
  clear hlen
  go_enter Try.func12, Try.ntmps12
  go_wp2_with (at_make; refine wpList_make_full _ rfl _ _ 26 rfl w.heap.size 22 i0 (.float .f32 0) 1 (by kernel_rfl) hi hz0 hz1 .i64 .i64 n n n rfl rfl rfl rfl (by rw [hz2]; omega) (by unfold maxLen; omega) (Nat.le_refl _) ?_; intro w1 hown hgrow)
  have hbel : Below w.heap.size w w1 := (Below.refl _ w).grown hgrow (Nat.le_refl _) (by simp)
  have Hown := Lib.hid hown
  clear hown
  go_loopw [4] (fun i wr => ∃ k : Nat, k ≤ n ∧ i = .int .i64 k ∧ wr.ownsRow w.heap.size 22 1 (.slice (some ⟨w.heap.size, 0, none⟩) n n) n (copied (Value.float .f32) (.float .f32 0) fs k) ∧ Below w.heap.size w wr) (fun i _ => n - (intOf i).toNat)
  case atStart =>
    refine ⟨0, Nat.zero_le _, rfl, ?_, hbel⟩
    have h0 := Hown.out
    have e : (madeCells (Value.float .f32 0).cells (n * 1)).toList = copied (Value.float .f32) (.float .f32 0) fs 0 := by
      unfold copied
      rw [Hlen.out, Nat.mul_one, Nat.sub_zero, List.take_zero, List.map_nil, List.nil_append]
      exact made1 _ n
    rw [e] at h0
    exact h0
  case round =>
    obtain ⟨k, hk, rfl, hown, hb⟩ := hrel
    by_cases hlt : k < n
    · obtain ⟨b, off, rfl, hbs, hc⟩ := Hf.out (by omega)
      have c1 : wr.cell? ⟨b, off + k, none⟩ = some (.float .f32 (fs.getD k 0)) := by rw [hb.cell hbs]; exact hc k hlt
      have c2 : wr.cell? ⟨w.heap.size, k, none⟩ = some (.float .f32 0) := by rw [hown.cellAt k (by omega)]; exact copied_at _ _ _ _ (by rw [Hlen.out]; exact hlt)
      have c3 := hown.frozenAt k
      obtain ⟨hs1, _⟩ := hown.stored k (.float .f32 (fs.getD k 0))
      rw [show Value.float .f32 (fs.getD k 0) = (Value.float .f32) (fs.getD k 0) from rfl, copied_set _ _ _ _ _ (by rw [Hlen.out]; exact hlt)] at hs1
      have Hs1 := Lib.hid hs1
      have Hb := Lib.hid hb
      have hsz := hb.size
      clear hs1 hown hc hb
      go_wp2
      go_roundw
      case rel => exact ⟨k + 1, by omega, by go_num, Hs1.out, Hb.out.setCell (Nat.le_refl _) _⟩
      case measure => simp [intOf]; omega
    · obtain rfl : k = n := by omega
      have Hown2 := Lib.hid hown
      have Hb := Lib.hid hb
      clear hown hb
      go_wp2
      go_ret
      refine ⟨_, rfl, ⟨_, k, by rw [Hlen.out]; rfl, fun h0 => ⟨w.heap.size, 0, rfl, ?_, fun i hi2 => ?_⟩⟩, Hb.out⟩
      · exact (Hown2.out.lt _ rfl).2
      · rw [Nat.zero_add, Hown2.out.cellAt i (by rw [Hlen.out] at hi2; omega)]
        have := copied_done (Value.float .f32) (.float .f32 0) fs 0 i hi2
        rw [Hlen.out] at this
        exact this

set_option maxHeartbeats 400000 in
theorem eqF_any (fs : List Nat) (v u : Value) (w : World) (hn : fs.length ≤ 1048576) (h : Sl (Value.float .f32) 0 w v fs) (g : Sl (Value.float .f32) 0 w u fs) :
    Calls Try.prog 15 #[v, u] w fun e w' => ∃ n, e = .returned (.bool true) ∧ w' = w.drewN n := by
  obtain ⟨p, cap, rfl, hf⟩ := h
  obtain ⟨q, cap', rfl, hg⟩ := g
  have Hf := Lib.hid hf
  have Hg := Lib.hid hg
  clear hf hg
  generalize fs.length = n at *
  have hne : ((n : Int) != (n : Int)) = false := by simp
  go_enter Try.func15, Try.ntmps15
  go_wp2
  go_loopw [5] (fun i wr => ∃ k q : Nat, k ≤ n ∧ i = .int .i64 k ∧ wr = w.drewN q) (fun i _ => n - (intOf i).toNat)
  case atStart => exact ⟨0, 0, Nat.zero_le _, rfl, rfl⟩
  case round =>
    obtain ⟨k, dn, hk, rfl, rfl⟩ := hrel
    by_cases hlt : k < n
    · obtain ⟨b, off, rfl, hbs, hc⟩ := Hf.out (by omega)
      obtain ⟨b', off', rfl, hbs', hc'⟩ := Hg.out (by omega)
      have c1 := hc k hlt
      have c2 := hc' k hlt
      clear hc hc'
      go_wp2
      go_region_with (first | (refine upon_fconv _ _ .f32 .f64 (by kernel_rfl) (by kernel_rfl) _ ?_; intro r n hr) | (go_at_call 14; refine (sameFloat_any _ _ (SameF.wide (a := fs[k]?.getD 0) (b := fs[k]?.getD 0) rfl (by assumption) (by assumption)) _).mono ?_; rintro e w' ⟨rfl, n, rfl⟩))
      all_goals (go_wp2; go_roundw)
      all_goals first | exact ⟨k + 1, _, by omega, by go_num, rfl⟩ | (simp [intOf]; omega)
    · obtain rfl : k = n := by omega
      go_wp2
      go_ret
      exact ⟨_, rfl, rfl⟩

/-! ### sums -/
/-- r is what a sum from left to right may be, begun with +0 -/
def SumR (fs : List Nat) : Nat → Nat → Prop
  | 0, r => r = 0
  | k + 1, r => ∃ q, SumR fs k q ∧ FopR .add .f32 q (fs[k]?.getD 0) r
theorem SumR.same {fs : List Nat} : ∀ {k q r : Nat}, SumR fs k q → SumR fs k r → SameF .f32 q r
  | 0, _, _, h, g => by rw [show _ = 0 from h, show _ = 0 from g]; rfl
  | k + 1, _, _, ⟨q, h1, h2⟩, ⟨r, g1, g2⟩ => fop_same h2 g2 (SumR.same h1 g1) rfl

set_option maxHeartbeats 400000 in
theorem sum_spec (fs : List Nat) (v : Value) (w : World) (hn : fs.length ≤ 1048576) (h : Sl (Value.float .f32) 0 w v fs) :
    Calls Try.prog 40 #[v] w fun e w' => ∃ r n, e = .returned (.float .f32 r) ∧ w' = w.drewN n ∧ SumR fs fs.length r := by
  obtain ⟨p, cap, rfl, hf⟩ := h
  have Hf := Lib.hid hf
  clear hf
  generalize fs.length = n at *
  go_enter Try.func40, Try.ntmps40
  go_wp2
  go_loopw [3, 4] (fun s i wr => ∃ k q z : Nat, k ≤ n ∧ i = .int .i64 k ∧ s = .float .f32 z ∧ SumR fs k z ∧ wr = w.drewN q) (fun _ i _ => n - (intOf i).toNat)
  case atStart => exact ⟨0, 0, 0, Nat.zero_le _, rfl, rfl, rfl, rfl⟩
  case round =>
    obtain ⟨k, dn, z, hk, rfl, rfl, hz, rfl⟩ := hrel
    have Hz := Lib.hid hz
    clear hz
    by_cases hlt : k < n
    · obtain ⟨b, off, rfl, hbs, hc⟩ := Hf.out (by omega)
      have c1 := hc k hlt
      clear hc
      go_wp2_with (refine wpList_farith rfl .add _ _ _ _ rfl (by simp) .f32 _ _ rfl rfl ?_; intro r n hr)
      exact ⟨⟨k + 1, _, r, by omega, by go_num, rfl, ⟨z, Hz.out, hr⟩, rfl⟩, by simp [intOf]; omega⟩
    · obtain rfl : k = n := by omega
      go_wp2
      go_ret
      exact ⟨_, _, rfl, rfl, Hz.out⟩

@[go_sem] theorem conv32 (b : Nat) (w : World) : (convert 22 22 (.float .f32 b)).run Try.prog w = .ok (.float .f32 b) w :=
  run_convert_float_float w 22 22 .f32 .f32 b b (by kernel_rfl) (by kernel_rfl) (by simp [floatToFloatBits])

set_option maxHeartbeats 400000 in
theorem sum_yes (fs : List Nat) (v : Value) (w : World) (hn : fs.length ≤ 256) (h : Sl (Value.float .f32) 0 w v fs) :
    Calls Try.prog 13 #[v] w fun e w' => ∃ r n, e = .returned (.tuple #[.float .f32 r, .bool true]) ∧ w' = w.drewN n ∧ SumR fs fs.length r := by
  obtain ⟨p, cap, rfl, hf⟩ := h
  have Hf := Lib.hid hf
  clear hf
  generalize fs.length = n at *
  have d1 : decide (256 < (n : Int)) = false := decide_eq_false (by omega)
  go_enter Try.func13, Try.ntmps13
  go_wp2
  go_loopw [4, 12] (fun s i wr => ∃ k q z : Nat, k ≤ n ∧ i = .int .i64 k ∧ s = .float .f32 z ∧ SumR fs k z ∧ wr = w.drewN q) (fun _ i _ => n - (intOf i).toNat)
  case atStart => exact ⟨0, 0, 0, Nat.zero_le _, rfl, rfl, rfl, rfl⟩
  case round =>
    obtain ⟨k, dn, z, hk, rfl, rfl, hz, rfl⟩ := hrel
    have Hz := Lib.hid hz
    clear hz
    by_cases hlt : k < n
    · obtain ⟨b, off, rfl, hbs, hc⟩ := Hf.out (by omega)
      have c1 := hc k hlt
      clear hc
      go_wp2_with (refine wpList_farith rfl .add _ _ _ _ rfl (by simp) .f32 _ _ rfl rfl ?_; intro r n hr)
      exact ⟨⟨k + 1, _, r, by omega, by go_num, rfl, ⟨z, Hz.out, hr⟩, rfl⟩, by simp [intOf]; omega⟩
    · obtain rfl : k = n := by omega
      go_wp2
      go_ret2
      exact ⟨_, _, rfl, rfl, Hz.out⟩
theorem sum_no (fs : List Nat) (v : Value) (w : World) (hn : 256 < fs.length) (hn2 : fs.length ≤ 1048576) (h : Sl (Value.float .f32) 0 w v fs) :
    Calls Try.prog 13 #[v] w fun e w' => e = .returned (.tuple #[.float .f32 0, .bool false]) ∧ w = w' := by
  obtain ⟨p, cap, rfl, hf⟩ := h
  clear hf
  generalize fs.length = n at *
  have d1 : decide (256 < (n : Int)) = true := decide_eq_true (by omega)
  go_enter Try.func13, Try.ntmps13
  go_wp2
  go_ret2
  exact ⟨rfl, rfl⟩
theorem few_any (fs : List Nat) (v : Value) (w : World) (hn : fs.length ≤ 1048576) (h : Sl (Value.float .f32) 0 w v fs) :
    Calls Try.prog 39 #[v] w fun e w' => e = .returned (.bool (decide (fs.length ≤ 256))) ∧ w = w' := by
  obtain ⟨p, cap, rfl, hf⟩ := h
  clear hf
  go_enter Try.func39, Try.ntmps39
  go_wp2
  go_ret
  exact ⟨ret_bool (by first | rfl | (congr 1; apply propext; omega)), rfl⟩

/-- r is what a sum of products from left to right may be, begun with +0 -/
def DotR (fs gs : List Nat) : Nat → Nat → Prop
  | 0, r => r = 0
  | k + 1, r => ∃ q p, DotR fs gs k q ∧ FopR .mul .f32 (fs[k]?.getD 0) (gs[k]?.getD 0) p ∧ FopR .add .f32 q p r
theorem DotR.same {fs gs : List Nat} : ∀ {k q r : Nat}, DotR fs gs k q → DotR fs gs k r → SameF .f32 q r
  | 0, _, _, h, g => by rw [show _ = 0 from h, show _ = 0 from g]; rfl
  | k + 1, _, _, ⟨q, p, h1, h2, h3⟩, ⟨r, t, g1, g2, g3⟩ => fop_same h3 g3 (DotR.same h1 g1) (fop_same h2 g2 rfl rfl)

set_option maxHeartbeats 1000000 in
theorem dot_yes (fs gs : List Nat) (v u : Value) (w : World) (hn : fs.length ≤ 256) (he : gs.length = fs.length) (h : Sl (Value.float .f32) 0 w v fs) (g : Sl (Value.float .f32) 0 w u gs) :
    Calls Try.prog 17 #[v, u] w fun e w' => ∃ r n, e = .returned (.tuple #[.float .f32 r, .bool true]) ∧ w' = w.drewN n ∧ DotR fs gs fs.length r := by
  obtain ⟨p, cap, rfl, hf⟩ := h
  obtain ⟨p', cap', rfl, hg⟩ := g
  rw [he] at hg ⊢
  have Hf := Lib.hid hf
  have Hg := Lib.hid hg
  clear hf hg he
  generalize fs.length = n at *
  have d1 : decide (256 < (n : Int)) = false := decide_eq_false (by omega)
  have d2 : ((n : Int) != (n : Int)) = false := by simp
  go_enter Try.func17, Try.ntmps17
  go_wp2
  go_loopw [6, 21] (fun s i wr => ∃ k q z : Nat, k ≤ n ∧ i = .int .i64 k ∧ s = .float .f32 z ∧ DotR fs gs k z ∧ wr = w.drewN q) (fun _ i _ => n - (intOf i).toNat)
  case atStart => exact ⟨0, 0, 0, Nat.zero_le _, rfl, rfl, rfl, rfl⟩
  case round =>
    obtain ⟨k, dn, z, hk, rfl, rfl, hz, rfl⟩ := hrel
    have Hz := Lib.hid hz
    clear hz
    by_cases hlt : k < n
    · obtain ⟨b, off, rfl, hbs, hc⟩ := Hf.out (by omega)
      obtain ⟨b', off', rfl, hbs', hc'⟩ := Hg.out (by omega)
      have c1 := hc k hlt
      have c2 := hc' k hlt
      clear hc hc'
      go_wp2_with (first | (refine wpList_farith rfl .mul _ _ _ _ rfl (by simp) .f32 _ _ rfl rfl ?_; intro r1 n1 hr1) | (refine wpList_farith rfl .add _ _ _ _ rfl (by simp) .f32 _ _ rfl rfl ?_; intro r n hr))
      exact ⟨⟨k + 1, _, r, by omega, by go_num, rfl, ⟨z, r1, Hz.out, hr1, hr⟩, rfl⟩, by simp [intOf]; omega⟩
    · obtain rfl : k = n := by omega
      go_wp2
      go_ret2
      exact ⟨_, _, rfl, rfl, Hz.out⟩

set_option maxHeartbeats 1000000 in
theorem dot_spec (fs gs : List Nat) (v u : Value) (w : World) (hn : fs.length ≤ 256) (he : gs.length = fs.length) (h : Sl (Value.float .f32) 0 w v fs) (g : Sl (Value.float .f32) 0 w u gs) :
    Calls Try.prog 41 #[v, u] w fun e w' => ∃ r n, e = .returned (.float .f32 r) ∧ w' = w.drewN n ∧ DotR fs gs fs.length r := by
  obtain ⟨p, cap, rfl, hf⟩ := h
  obtain ⟨p', cap', rfl, hg⟩ := g
  rw [he] at hg ⊢
  have Hf := Lib.hid hf
  have Hg := Lib.hid hg
  clear hf hg he
  generalize fs.length = n at *
  go_enter Try.func41, Try.ntmps41
  go_wp2
  go_loopw [5, 6] (fun s i wr => ∃ k q z : Nat, k ≤ n ∧ i = .int .i64 k ∧ s = .float .f32 z ∧ DotR fs gs k z ∧ wr = w.drewN q) (fun _ i _ => n - (intOf i).toNat)
  case atStart => exact ⟨0, 0, 0, Nat.zero_le _, rfl, rfl, rfl, rfl⟩
  case round =>
    obtain ⟨k, dn, z, hk, rfl, rfl, hz, rfl⟩ := hrel
    have Hz := Lib.hid hz
    clear hz
    by_cases hlt : k < n
    · obtain ⟨b, off, rfl, hbs, hc⟩ := Hf.out (by omega)
      obtain ⟨b', off', rfl, hbs', hc'⟩ := Hg.out (by omega)
      have c1 := hc k hlt
      have c2 := hc' k hlt
      clear hc hc'
      go_wp2
      go_region_with (first | (refine upon_farith .mul (by simp) _ .f32 _ _ ?_; intro r1 n1 hr1) | (refine upon_farith .add (by simp) _ .f32 _ _ ?_; intro r n hr))
      all_goals (go_wp2; go_roundw)
      all_goals first | exact ⟨k + 1, _, r, by omega, by go_num, rfl, ⟨z, r1, Hz.out, hr1, hr⟩, rfl⟩ | (simp [intOf]; omega)
    · obtain rfl : k = n := by omega
      go_wp2
      go_ret
      exact ⟨_, _, rfl, rfl, Hz.out⟩

theorem sumspec_yes (fs : List Nat) (v : Value) (w : World) (hn : fs.length ≤ 256) (h : Sl (Value.float .f32) 0 w v fs) :
    Calls Try.prog 11 #[v] w fun e w' => ∃ r n, e = .returned (.tuple #[.float .f32 r, .bool true]) ∧ w' = w.drewN n ∧ SumR fs fs.length r := by
  have Hh := Lib.hid h
  have hd : decide (fs.length ≤ 256) = true := decide_eq_true hn
  have hn2 : fs.length ≤ 1048576 := by omega
  go_enter Try.func11, Try.ntmps11
  go_wp2_with (first | (go_at_call 39; refine (few_any fs _ _ hn2 Hh.out).mono ?_; rintro e w' ⟨rfl, rfl⟩) | (go_at_call 40; refine (sum_spec fs _ _ hn2 Hh.out).mono ?_; rintro e w' ⟨r, n, rfl, rfl, hr⟩; have Hr := Lib.hid hr; clear hr))
  go_ret2
  exact ⟨_, _, rfl, rfl, Hr.out⟩
theorem sumspec_no (fs : List Nat) (v : Value) (w : World) (hn : 256 < fs.length) (hn2 : fs.length ≤ 1048576) (h : Sl (Value.float .f32) 0 w v fs) :
    Calls Try.prog 11 #[v] w fun e w' => e = .returned (.tuple #[.float .f32 0, .bool false]) ∧ w = w' := by
  have Hh := Lib.hid h
  have hd : decide (fs.length ≤ 256) = false := decide_eq_false (by omega)
  go_enter Try.func11, Try.ntmps11
  go_wp2_with (first | (go_at_call 39; refine (few_any fs _ _ hn2 Hh.out).mono ?_; rintro e w' ⟨rfl, rfl⟩))
  go_ret2
  exact ⟨rfl, rfl⟩
theorem dotspec_yes (fs gs : List Nat) (v u : Value) (w : World) (hn : fs.length ≤ 256) (he : gs.length = fs.length) (h : Sl (Value.float .f32) 0 w v fs) (g : Sl (Value.float .f32) 0 w u gs) :
    Calls Try.prog 16 #[v, u] w fun e w' => ∃ r n, e = .returned (.tuple #[.float .f32 r, .bool true]) ∧ w' = w.drewN n ∧ DotR fs gs fs.length r := by
  have Hh := Lib.hid h
  have Hg := Lib.hid g
  have Hhe := Lib.hid he
  have hd : decide (fs.length ≤ 256) = true := decide_eq_true hn
  have hd2 : ((fs.length : Int) != (gs.length : Int)) = false := by rw [he]; simp
  have hn2 : fs.length ≤ 1048576 := by omega
  obtain ⟨p, cap, rfl, hf⟩ := h
  obtain ⟨p', cap', rfl, hg⟩ := g
  clear hf hg
  clear he
  go_enter Try.func16, Try.ntmps16
  go_wp2_with (first | (go_at_call 39; refine (few_any fs _ _ hn2 Hh.out).mono ?_; rintro e w' ⟨rfl, rfl⟩) | (go_at_call 41; refine (dot_spec fs gs _ _ _ hn Hhe.out Hh.out Hg.out).mono ?_; rintro e w' ⟨r, n, rfl, rfl, hr⟩; have Hr := Lib.hid hr; clear hr))
  go_ret2
  exact ⟨_, _, rfl, rfl, Hr.out⟩
theorem dotspec_no (fs gs : List Nat) (v u : Value) (w : World) (hn : 256 < fs.length ∨ gs.length ≠ fs.length) (hn2 : fs.length ≤ 1048576) (h : Sl (Value.float .f32) 0 w v fs) (g : Sl (Value.float .f32) 0 w u gs) :
    Calls Try.prog 16 #[v, u] w fun e w' => e = .returned (.tuple #[.float .f32 0, .bool false]) ∧ w = w' := by
  have Hh := Lib.hid h
  obtain ⟨p, cap, rfl, hf⟩ := h
  obtain ⟨p', cap', rfl, hg⟩ := g
  clear hf hg
  by_cases c : fs.length ≤ 256
  · have hd : decide (fs.length ≤ 256) = true := decide_eq_true c
    have hd2 : ((fs.length : Int) != (gs.length : Int)) = true := by simp; omega
    clear hn
    go_enter Try.func16, Try.ntmps16
    go_wp2_with (first | (go_at_call 39; refine (few_any fs _ _ hn2 Hh.out).mono ?_; rintro e w' ⟨rfl, rfl⟩))
    go_ret2
    exact ⟨rfl, rfl⟩
  · have hd : decide (fs.length ≤ 256) = false := decide_eq_false c
    clear hn
    go_enter Try.func16, Try.ntmps16
    go_wp2_with (first | (go_at_call 39; refine (few_any fs _ _ hn2 Hh.out).mono ?_; rintro e w' ⟨rfl, rfl⟩))
    go_ret2
    exact ⟨rfl, rfl⟩
theorem dot_no (fs gs : List Nat) (v u : Value) (w : World) (hn : 256 < fs.length ∨ gs.length ≠ fs.length) (hn2 : fs.length ≤ 1048576) (h : Sl (Value.float .f32) 0 w v fs) (g : Sl (Value.float .f32) 0 w u gs) :
    Calls Try.prog 17 #[v, u] w fun e w' => e = .returned (.tuple #[.float .f32 0, .bool false]) ∧ w = w' := by
  obtain ⟨p, cap, rfl, hf⟩ := h
  obtain ⟨p', cap', rfl, hg⟩ := g
  clear hf hg
  by_cases c : gs.length = fs.length
  · have hd : decide (256 < (fs.length : Int)) = true := decide_eq_true (by omega)
    rw [c]
    have hd2 : ((fs.length : Int) != (fs.length : Int)) = false := by simp
    clear hn c
    go_enter Try.func17, Try.ntmps17
    go_wp2
    go_ret2
    exact ⟨rfl, rfl⟩
  · have hd2 : ((fs.length : Int) != (gs.length : Int)) = true := by simp; omega
    clear hn c
    go_enter Try.func17, Try.ntmps17
    go_wp2
    go_ret2
    exact ⟨rfl, rfl⟩
theorem below_step {B : Nat} {a b c : World} (h : Below B a b) (g : Below b.heap.size b c) (hB : B ≤ a.heap.size) : Below B a c := h.trans (g.mono (Nat.le_trans hB h.size))
end Go.Proofs.Ythdbjdpkckmbeac
