/- Contracts: scores, how often players have met, sums of others' scores, in both texts. -/
import Derived.Test.YtfipcpbibmhjoabSf
import Derived.Test.YtfipcpbibmhjoabSg
set_option linter.unusedVariables false
namespace Go.Proofs.Ytfipcpbibmhjoab
open Go.RowKit
/-- what a valid game has -/
theorem gAt_nat {p : Nat} {fs : List Int} {k : Nat} (h : gAt (p : Int) fs k = true) : fs.getD (k * 3) 0 = (gx fs k : Int) ∧ fs.getD (k * 3 + 1) 0 = (gy fs k : Int) ∧ fs.getD (k * 3 + 2) 0 = (gz fs k : Int) ∧ gx fs k < p ∧ gy fs k < p ∧ gz fs k ≤ 2 ∧ gx fs k ≠ gy fs k := by
  unfold gAt gB at h
  rw [Bool.and_eq_true, Bool.and_eq_true, Bool.and_eq_true] at h
  obtain ⟨⟨⟨h1, h2⟩, h3⟩, h4⟩ := h
  have h1 := rB_yes h1
  have h2 := rB_yes h2
  have h4 := rB_yes h4
  have h3 : ¬ fs.getD (k * 3) 0 = fs.getD (k * 3 + 1) 0 := by simpa using h3
  unfold gx gy gz
  omega
theorem gamesB_at {P : Int} {n : Nat} {fs : List Int} (h : gamesB P n fs = true) : (∃ p : Nat, P = (p : Int) ∧ 2 ≤ p ∧ p ≤ 16) ∧ n ≤ 128 ∧ ∀ k, k < n → gAt P fs k = true := by
  unfold gamesB at h
  rw [Bool.and_eq_true, Bool.and_eq_true] at h
  obtain ⟨⟨h1, h2⟩, h3⟩ := h
  have h1 := rB_yes h1
  exact ⟨⟨P.toNat, by omega, by omega, by omega⟩, of_decide_eq_true h2, gAll_at h3⟩
theorem scores_bd {p : Nat} {fs : List Int} {n : Nat} (h : ∀ k, k < n → gAt (p : Int) fs k = true) (k : Nat) (hk : k ≤ n) (i : Nat) : 0 ≤ (scoresT p fs k).getD i 0 ∧ (scoresT p fs k).getD i 0 ≤ 2 * (2 * (k : Int)) :=
  updT_bd _ _ _ _ _ 2 k (fun j hj => by have := gAt_nat (h j (by omega)); omega) i
theorem met_bd (p : Nat) (fs : List Int) (k : Nat) (i : Nat) : 0 ≤ (metT p fs k).getD i 0 ∧ (metT p fs k).getD i 0 ≤ 1 * (2 * (k : Int)) :=
  updT_bd _ _ _ _ _ 1 k (fun j hj => by omega) i
theorem buch_bd {p : Nat} {fs s : List Int} (hs : ∀ i, 0 ≤ s.getD i 0 ∧ s.getD i 0 ≤ 512) (k : Nat) (i : Nat) : 0 ≤ (buchT p fs s k).getD i 0 ∧ (buchT p fs s k).getD i 0 ≤ 512 * (2 * (k : Int)) :=
  updT_bd _ _ _ _ _ 512 k (fun j hj => ⟨hs _, hs _⟩) i
theorem at_lt {p x y : Nat} (hx : x < p) (hy : y < p) : x * p + y < p * p := by
  have := Nat.mul_le_mul_right p (show x + 1 ≤ p by omega)
  rw [Nat.add_mul, Nat.one_mul] at this
  omega
theorem at_ne {p x y : Nat} (hx : x < p) (hy : y < p) (hne : x ≠ y) : x * p + y ≠ y * p + x := by
  rcases Nat.lt_or_gt_of_ne hne with h | h
  · have := Nat.mul_le_mul_right p (show x + 1 ≤ y by omega)
    rw [Nat.add_mul, Nat.one_mul] at this
    omega
  · have := Nat.mul_le_mul_right p (show y + 1 ≤ x by omega)
    rw [Nat.add_mul, Nat.one_mul] at this
    omega
set_option maxRecDepth 100000 in
set_option maxHeartbeats 4000000 in
theorem scores_implA (P : Int) (n : Nat) (fs : List Int) (v : Value) (w : World) (hn : n ≤ 1048576) (h : SlK 3 w v n fs) (hv : gamesB P n fs = true) :
    Calls Try.prog 57 #[.int .i64 P, v] w fun e w' => ∃ r, e = .returned (.tuple #[r, .bool true]) ∧ Sw (Value.int .i64) 0 w' r (scoresT P.toNat fs n) w.heap.size w'.heap.size ∧ Below w.heap.size w w' := by
  obtain ⟨⟨p, rfl, hp1, hp2⟩, hn2, hg⟩ := gamesB_at hv
  have Hg := Lib.hid (games_impl (p : Int) n fs v w hn h)
  rw [hv] at Hg
  rw [Int.toNat_natCast]
  have Hat := Lib.hid (fun k hk => gAt_nat (hg k hk))
  have Hbd := Lib.hid (scores_bd hg)
  have Hlen := Lib.hid (updT_len p (gx fs) (gy fs) (fun k => (gz fs k : Int)) (fun k => 2 - (gz fs k : Int)))
  have Hst := Lib.hid (fun k => show scoresT p fs (k + 1) = addAt (addAt (scoresT p fs k) (gx fs k) (gz fs k : Int)) (gy fs k) (2 - (gz fs k : Int)) from rfl)
  have H0 := Lib.hid (show scoresT p fs 0 = List.replicate p 0 from rfl)
  rw [show updT p (gx fs) (gy fs) (fun k => (gz fs k : Int)) (fun k => 2 - (gz fs k : Int)) = scoresT p fs from rfl] at Hlen
  clear hv hg
  obtain ⟨i0, hi, hz0, hz1, hz2⟩ := info_parts (show (Try.prog.info? 2).map (fun i => (i.zero, i.size, i.bytes)) = some (some (.int .i64 0), 1, 8) by kernel_rfl)
  have Hsl := Lib.hid h
  obtain ⟨-, q, cap, rfl, -⟩ := h
  go_enter Try.func57, Try.ntmps57
  go_wp2_with (first | (go_at_call 67; refine (Hg.out).mono ?_; rintro e w0 ⟨rfl, hb⟩; have Hb0 := Lib.hid hb; have hz3 := hb.size; clear hb) | (at_make; refine wpList_make_full _ rfl _ _ 22 rfl w.heap.size 2 i0 (.int .i64 0) 1 (by kernel_rfl) hi hz0 hz1 .i64 .i64 p p p rfl rfl rfl rfl (by rw [hz2]; omega) (by unfold maxLen; omega) hz3 ?_; intro w1 hown hgrow))
  have hbel : Below w.heap.size w w1 := Hb0.out.grown hgrow hz3 (by simp)
  have Hown := Lib.hid (sw_made hown)
  have Hbel := Lib.hid hbel
  rw [← H0.out] at Hown
  clear hown hgrow hbel Hg
  go_loopw [17] (fun i wr => ∃ k : Nat, k ≤ n ∧ i = .int .i64 (k : Int) ∧ Hid (Sw (Value.int .i64) 0 wr (.slice (some ⟨w0.heap.size, 0, none⟩) p p) (scoresT p fs k) w0.heap.size (w0.heap.size + 1)) ∧ Hid (Below w.heap.size w wr)) (fun i _ => n - (intOf i).toNat)
  case atStart => exact ⟨0, Nat.zero_le _, rfl, Hown, Hbel⟩
  case round =>
    obtain ⟨k, hk, rfl, hs, hb⟩ := hrel
    have hsz := hb.out.size
    by_cases hlt : k < n
    · obtain ⟨-, q', cap', e1, hf⟩ := Hsl.out
      cases e1
      obtain ⟨hcap, b, off, rfl, hbs, hc⟩ := hf (by omega)
      have c0 : wr.cell? ⟨b, off + k * 3, none⟩ = some (Value.int .i64 (fs.getD (k * 3) 0)) := by rw [hb.out.cell hbs]; exact hc (k * 3) (by omega)
      have c1 : wr.cell? ⟨b, off + k * 3 + 1, none⟩ = some (Value.int .i64 (fs.getD (k * 3 + 1) 0)) := by rw [hb.out.cell hbs]; exact hc (k * 3 + 1) (by omega)
      have c2 : wr.cell? ⟨b, off + k * 3 + 2, none⟩ = some (Value.int .i64 (fs.getD (k * 3 + 2) 0)) := by rw [hb.out.cell hbs]; exact hc (k * 3 + 2) (by omega)
      obtain ⟨a1, a2, a3, a4, a5, a6, a7⟩ := Hat.out k hlt
      rw [a1] at c0
      rw [a2] at c1
      rw [a3] at c2
      have hl := Hlen.out k
      have hst := Hst.out k
      have hbx := Hbd.out k hk (gx fs k)
      have hby := Hbd.out k hk (gy fs k)
      have hbB : b < w0.heap.size := by omega
      clear hc hf a1 a2 a3
      generalize gx fs k = x at *
      generalize gy fs k = y at *
      generalize gz fs k = z at *
      have dx := hs.out.cells0 x (by rw [hl]; omega)
      have dy := hs.out.cells0 y (by rw [hl]; omega)
      have hB : w0.heap.size < wr.heap.size := by
        obtain ⟨p', cap2, e, h⟩ := hs.out
        obtain ⟨hcap2, b2, off2, e2, g1, g2, g3, hc⟩ := h (by rw [hl]; omega)
        omega
      have Hfin := Lib.hid (fun (u : World) (hu : Sw (Value.int .i64) 0 u (.slice (some ⟨w0.heap.size, 0, none⟩) p p) (scoresT p fs k) w0.heap.size (w0.heap.size + 1)) => hu.adds x y (by rw [hl]; omega) (by rw [hl]; omega) a7 (z : Int) (2 - (z : Int)))
      have Hst2 := Lib.hid hst
      clear hst hl
      generalize (scoresT p fs k).getD x 0 = X at *
      generalize (scoresT p fs k).getD y 0 = Y at *
      obtain ⟨dx1, dx2⟩ := dx
      obtain ⟨dy1, dy2⟩ := dy
      have hxy : (x = y) = False := eq_false a7
      have hyx : (y = x) = False := eq_false (Ne.symm a7)
      have hba := (Below.refl _ wr).alloc (Nat.le_refl _) (.cells #[Value.int .i64 (x : Int), Value.int .i64 (y : Int), Value.int .i64 (z : Int)] 79)
      obtain ⟨k0, k1, k2⟩ := alloc3_cells wr (Value.int .i64 (x : Int)) (Value.int .i64 (y : Int)) (Value.int .i64 (z : Int)) 79
      have dx1' := cell_keep hba dx1
      have dy1' := cell_keep hba dy1
      have dx2' : (wr.alloc (.cells #[Value.int .i64 (x : Int), Value.int .i64 (y : Int), Value.int .i64 (z : Int)] 79)).frozen? ⟨w0.heap.size, x, none⟩ = false := by rw [hba.frozen (by show w0.heap.size < _; exact hB)]; exact dx2
      have dy2' : (wr.alloc (.cells #[Value.int .i64 (x : Int), Value.int .i64 (y : Int), Value.int .i64 (z : Int)] 79)).frozen? ⟨w0.heap.size, y, none⟩ = false := by rw [hba.frozen (by show w0.heap.size < _; exact hB)]; exact dy2
      have Hu := Lib.hid (Hfin.out _ (hs.out.later hba))
      have Hbu := Lib.hid (hb.out.trans (hba.mono hsz))
      skip
      go_wp2
      generalize wr.alloc (.cells #[Value.int .i64 (x : Int), Value.int .i64 (y : Int), Value.int .i64 (z : Int)] 79) = u at *
      clear c0 c1 c2 dx1 dx2 dy1 dy2 hs Hfin hba
      go_wp2
      try (go_region; go_wp2)
      try (go_region; go_wp2)
      go_roundw
      case rel => exact ⟨k + 1, by omega, by go_num, Lib.hid (by rw [Hst2.out]; exact Hu.out), Lib.hid (((Hbu.out.setCell (by show _ ≤ w0.heap.size; omega) _).setCell (by show _ ≤ w0.heap.size; omega) _).drew.drew)⟩
      case measure => simp [intOf]; omega
    · obtain rfl : k = n := by omega
      have HB2 : Hid (w0.heap.size + 1 ≤ wr.heap.size) := by
        obtain ⟨q', cap', e1, hf⟩ := hs.out
        obtain ⟨hcap2, b2, off2, e2, g1, g2, g3, hc⟩ := hf (by rw [Hlen.out k]; omega)
        exact Lib.hid g3
      clear Hat Hbd Hst H0 Hlen Hsl
      go_wp2
      go_ret2
      exact ⟨_, rfl, hs.out.mono (by omega) HB2.out (Nat.le_refl _), hb.out⟩
set_option maxRecDepth 100000 in
set_option maxHeartbeats 4000000 in
theorem met_implA (P : Int) (n : Nat) (fs : List Int) (v : Value) (w : World) (hn : n ≤ 1048576) (h : SlK 3 w v n fs) (hv : gamesB P n fs = true) :
    Calls Try.prog 59 #[.int .i64 P, v] w fun e w' => ∃ r, e = .returned (.tuple #[r, .bool true]) ∧ Sw (Value.int .i64) 0 w' r (metT P.toNat fs n) w.heap.size w'.heap.size ∧ Below w.heap.size w w' := by
  obtain ⟨⟨p, rfl, hp1, hp2⟩, hn2, hg⟩ := gamesB_at hv
  have Hg := Lib.hid (games_impl (p : Int) n fs v w hn h)
  rw [hv] at Hg
  rw [Int.toNat_natCast]
  have Hat := Lib.hid (fun k hk => gAt_nat (hg k hk))
  have Hbd := Lib.hid (met_bd p fs)
  have Hlen := Lib.hid (updT_len (p * p) (fun k => gx fs k * p + gy fs k) (fun k => gy fs k * p + gx fs k) (fun _ => 1) (fun _ => 1))
  have Hst := Lib.hid (fun k => show metT p fs (k + 1) = addAt (addAt (metT p fs k) (gx fs k * p + gy fs k) 1) (gy fs k * p + gx fs k) 1 from rfl)
  have H0 := Lib.hid (show metT p fs 0 = List.replicate (p * p) 0 from rfl)
  rw [show updT (p * p) (fun k => gx fs k * p + gy fs k) (fun k => gy fs k * p + gx fs k) (fun _ => 1) (fun _ => 1) = metT p fs from rfl] at Hlen
  have hpl : p * p ≤ 256 := Nat.mul_le_mul hp2 hp2
  have hp0 : 0 < p * p := Nat.mul_pos (by omega) (by omega)
  have hpc : (p : Int) * (p : Int) = ((p * p : Nat) : Int) := (Int.natCast_mul _ _).symm
  obtain ⟨pp, hpp⟩ : ∃ pp, pp = p * p := ⟨_, rfl⟩
  rw [← hpp] at hpl hp0 hpc Hlen H0
  have Hpp := Lib.hid hpp
  clear hpp
  clear hv hg
  obtain ⟨i0, hi, hz0, hz1, hz2⟩ := info_parts (show (Try.prog.info? 2).map (fun i => (i.zero, i.size, i.bytes)) = some (some (.int .i64 0), 1, 8) by kernel_rfl)
  have Hsl := Lib.hid h
  obtain ⟨-, q, cap, rfl, -⟩ := h
  go_enter Try.func59, Try.ntmps59
  go_wp2_with (first | (go_at_call 67; refine (Hg.out).mono ?_; rintro e w0 ⟨rfl, hb⟩; have Hb0 := Lib.hid hb; have hz3 := hb.size; clear hb) | (at_make; refine wpList_make_full _ rfl _ _ 22 rfl w.heap.size 2 i0 (.int .i64 0) 1 (by kernel_rfl) hi hz0 hz1 .i64 .i64 pp pp pp rfl rfl rfl rfl (by rw [hz2]; omega) (by unfold maxLen; omega) hz3 ?_; intro w1 hown hgrow))
  have hbel : Below w.heap.size w w1 := Hb0.out.grown hgrow hz3 (by simp)
  have Hown := Lib.hid (sw_made hown)
  have Hbel := Lib.hid hbel
  rw [← H0.out] at Hown
  clear hown hgrow hbel Hg
  go_loopw [19] (fun i wr => ∃ k : Nat, k ≤ n ∧ i = .int .i64 (k : Int) ∧ Hid (Sw (Value.int .i64) 0 wr (.slice (some ⟨w0.heap.size, 0, none⟩) pp pp) (metT p fs k) w0.heap.size (w0.heap.size + 1)) ∧ Hid (Below w.heap.size w wr)) (fun i _ => n - (intOf i).toNat)
  case atStart => exact ⟨0, Nat.zero_le _, rfl, Hown, Hbel⟩
  case round =>
    obtain ⟨k, hk, rfl, hs, hb⟩ := hrel
    have hsz := hb.out.size
    by_cases hlt : k < n
    · obtain ⟨-, q', cap', e1, hf⟩ := Hsl.out
      cases e1
      obtain ⟨hcap, b, off, rfl, hbs, hc⟩ := hf (by omega)
      have c0 : wr.cell? ⟨b, off + k * 3, none⟩ = some (Value.int .i64 (fs.getD (k * 3) 0)) := by rw [hb.out.cell hbs]; exact hc (k * 3) (by omega)
      have c1 : wr.cell? ⟨b, off + k * 3 + 1, none⟩ = some (Value.int .i64 (fs.getD (k * 3 + 1) 0)) := by rw [hb.out.cell hbs]; exact hc (k * 3 + 1) (by omega)
      have c2 : wr.cell? ⟨b, off + k * 3 + 2, none⟩ = some (Value.int .i64 (fs.getD (k * 3 + 2) 0)) := by rw [hb.out.cell hbs]; exact hc (k * 3 + 2) (by omega)
      obtain ⟨a1, a2, a3, a4, a5, a6, a7⟩ := Hat.out k hlt
      rw [a1] at c0
      rw [a2] at c1
      rw [a3] at c2
      have hl := Hlen.out k
      have hst := Hst.out k
      have hbx := Hbd.out k (gx fs k * p + gy fs k)
      have hby := Hbd.out k (gy fs k * p + gx fs k)
      have hbB : b < w0.heap.size := by omega
      clear hc hf a1 a2 a3
      generalize gx fs k = x at *
      generalize gy fs k = y at *
      generalize gz fs k = z at *
      have hq1 := at_lt a4 a5
      have hq2 := at_lt a5 a4
      have hq3 := at_ne a4 a5 a7
      have hmc : (x : Int) * (p : Int) = ((x * p : Nat) : Int) := (Int.natCast_mul _ _).symm
      have hmd : (y : Int) * (p : Int) = ((y * p : Nat) : Int) := (Int.natCast_mul _ _).symm
      rw [← Hpp.out] at hq1 hq2
      generalize x * p = m1 at *
      generalize y * p = m2 at *
      have hm1 : m1 ≤ 256 := by omega
      have hm2 : m2 ≤ 256 := by omega
      have dx := hs.out.cells0 (m1 + y) (by rw [hl]; omega)
      have dy := hs.out.cells0 (m2 + x) (by rw [hl]; omega)
      have hB : w0.heap.size < wr.heap.size := by
        obtain ⟨p', cap2, e, h⟩ := hs.out
        obtain ⟨hcap2, b2, off2, e2, g1, g2, g3, hc⟩ := h (by rw [hl]; omega)
        omega
      have Hfin := Lib.hid (fun (u : World) (hu : Sw (Value.int .i64) 0 u (.slice (some ⟨w0.heap.size, 0, none⟩) pp pp) (metT p fs k) w0.heap.size (w0.heap.size + 1)) => hu.adds (m1 + y) (m2 + x) (by rw [hl]; omega) (by rw [hl]; omega) hq3 1 1)
      have Hst2 := Lib.hid hst
      clear hst hl
      generalize (metT p fs k).getD (m1 + y) 0 = X at *
      generalize (metT p fs k).getD (m2 + x) 0 = Y at *
      obtain ⟨dx1, dx2⟩ := dx
      obtain ⟨dy1, dy2⟩ := dy
      have hxy : ((m1 + y) = (m2 + x)) = False := eq_false hq3
      have hyx : ((m2 + x) = (m1 + y)) = False := eq_false (Ne.symm hq3)
      have hba := (Below.refl _ wr).alloc (Nat.le_refl _) (.cells #[Value.int .i64 (x : Int), Value.int .i64 (y : Int), Value.int .i64 (z : Int)] 79)
      obtain ⟨k0, k1, k2⟩ := alloc3_cells wr (Value.int .i64 (x : Int)) (Value.int .i64 (y : Int)) (Value.int .i64 (z : Int)) 79
      have dx1' := cell_keep hba dx1
      have dy1' := cell_keep hba dy1
      have dx2' : (wr.alloc (.cells #[Value.int .i64 (x : Int), Value.int .i64 (y : Int), Value.int .i64 (z : Int)] 79)).frozen? ⟨w0.heap.size, (m1 + y), none⟩ = false := by rw [hba.frozen (by show w0.heap.size < _; exact hB)]; exact dx2
      have dy2' : (wr.alloc (.cells #[Value.int .i64 (x : Int), Value.int .i64 (y : Int), Value.int .i64 (z : Int)] 79)).frozen? ⟨w0.heap.size, (m2 + x), none⟩ = false := by rw [hba.frozen (by show w0.heap.size < _; exact hB)]; exact dy2
      have Hu := Lib.hid (Hfin.out _ (hs.out.later hba))
      have Hbu := Lib.hid (hb.out.trans (hba.mono hsz))
      have Hfin0 := Lib.hid (Hfin.out _ hs.out)
      clear Hfin
      have Hv := Lib.hid ((Hfin0.out).later ((Below.refl _ _).alloc (Nat.le_refl _) (.cells #[Value.int .i64 (x : Int), Value.int .i64 (y : Int), Value.int .i64 (z : Int)] 79)))
      have hbz := hb
      clear hs Hfin0
      go_wp2
      go_roundw
      case rel => exact ⟨k + 1, by omega, by go_num, Lib.hid (by rw [Hst2.out]; exact Hv.out), Lib.hid (((hb.out.setCell (by show _ ≤ w0.heap.size; omega) _).setCell (by show _ ≤ w0.heap.size; omega) _).alloc (by simp; omega) _)⟩
      case measure => simp [intOf]; omega
    · obtain rfl : k = n := by omega
      have HB2 : Hid (w0.heap.size + 1 ≤ wr.heap.size) := by
        obtain ⟨q', cap', e1, hf⟩ := hs.out
        obtain ⟨hcap2, b2, off2, e2, g1, g2, g3, hc⟩ := hf (by rw [Hlen.out k]; omega)
        exact Lib.hid g3
      clear Hat Hbd Hst H0 Hlen Hsl
      go_wp2
      go_ret2
      exact ⟨_, rfl, hs.out.mono (by omega) HB2.out (Nat.le_refl _), hb.out⟩
set_option maxRecDepth 100000 in
set_option maxHeartbeats 4000000 in
theorem scores_specH (P : Int) (n : Nat) (fs : List Int) (v : Value) (w : World) (hn : n ≤ 1048576) (h : SlK 3 w v n fs) (hv : gamesB P n fs = true) :
    Calls Try.prog 53 #[.int .i64 P, v] w fun e w' => ∃ r, e = .returned r ∧ Sw (Value.int .i64) 0 w' r (scoresT P.toNat fs n) w.heap.size w'.heap.size ∧ Below w.heap.size w w' := by
  obtain ⟨⟨p, rfl, hp1, hp2⟩, hn2, hg⟩ := gamesB_at hv
  rw [Int.toNat_natCast]
  have Hat := Lib.hid (fun k hk => gAt_nat (hg k hk))
  have Hbd := Lib.hid (scores_bd hg)
  have Hlen := Lib.hid (updT_len p (gx fs) (gy fs) (fun k => (gz fs k : Int)) (fun k => 2 - (gz fs k : Int)))
  have Hst := Lib.hid (fun k => show scoresT p fs (k + 1) = addAt (addAt (scoresT p fs k) (gx fs k) (gz fs k : Int)) (gy fs k) (2 - (gz fs k : Int)) from rfl)
  have H0 := Lib.hid (show scoresT p fs 0 = List.replicate p 0 from rfl)
  rw [show updT p (gx fs) (gy fs) (fun k => (gz fs k : Int)) (fun k => 2 - (gz fs k : Int)) = scoresT p fs from rfl] at Hlen
  clear hv hg
  obtain ⟨i0, hi, hz0, hz1, hz2⟩ := info_parts (show (Try.prog.info? 2).map (fun i => (i.zero, i.size, i.bytes)) = some (some (.int .i64 0), 1, 8) by kernel_rfl)
  have Hsl := Lib.hid h
  obtain ⟨-, q, cap, rfl, -⟩ := h
  go_enter Try.func53, Try.ntmps53
  go_wp2_with (at_make; refine wpList_make_full _ rfl _ _ 22 rfl w.heap.size 2 i0 (.int .i64 0) 1 (by kernel_rfl) hi hz0 hz1 .i64 .i64 p p p rfl rfl rfl rfl (by rw [hz2]; omega) (by unfold maxLen; omega) (Nat.le_refl _) ?_; intro w1 hown hgrow)
  have hbel : Below w.heap.size w w1 := (Below.refl _ w).grown hgrow (Nat.le_refl _) (by simp)
  have Hown := Lib.hid (sw_made hown)
  have Hbel := Lib.hid hbel
  rw [← H0.out] at Hown
  clear hown hgrow hbel
  go_loopw [11] (fun i wr => ∃ k : Nat, k ≤ n ∧ i = .int .i64 (k : Int) ∧ Hid (Sw (Value.int .i64) 0 wr (.slice (some ⟨w.heap.size, 0, none⟩) p p) (scoresT p fs k) w.heap.size (w.heap.size + 1)) ∧ Hid (Below w.heap.size w wr)) (fun i _ => n - (intOf i).toNat)
  case atStart => exact ⟨0, Nat.zero_le _, rfl, Hown, Hbel⟩
  case round =>
    obtain ⟨k, hk, rfl, hs, hb⟩ := hrel
    have hsz := hb.out.size
    by_cases hlt : k < n
    · obtain ⟨-, q', cap', e1, hf⟩ := Hsl.out
      cases e1
      obtain ⟨hcap, b, off, rfl, hbs, hc⟩ := hf (by omega)
      have c0 : wr.cell? ⟨b, off + k * 3, none⟩ = some (Value.int .i64 (fs.getD (k * 3) 0)) := by rw [hb.out.cell hbs]; exact hc (k * 3) (by omega)
      have c1 : wr.cell? ⟨b, off + k * 3 + 1, none⟩ = some (Value.int .i64 (fs.getD (k * 3 + 1) 0)) := by rw [hb.out.cell hbs]; exact hc (k * 3 + 1) (by omega)
      have c2 : wr.cell? ⟨b, off + k * 3 + 2, none⟩ = some (Value.int .i64 (fs.getD (k * 3 + 2) 0)) := by rw [hb.out.cell hbs]; exact hc (k * 3 + 2) (by omega)
      obtain ⟨a1, a2, a3, a4, a5, a6, a7⟩ := Hat.out k hlt
      rw [a1] at c0
      rw [a2] at c1
      rw [a3] at c2
      have hl := Hlen.out k
      have hst := Hst.out k
      have hbx := Hbd.out k hk (gx fs k)
      have hby := Hbd.out k hk (gy fs k)
      have hbB : b < w.heap.size := by omega
      clear hc hf a1 a2 a3
      generalize gx fs k = x at *
      generalize gy fs k = y at *
      generalize gz fs k = z at *
      have dx := hs.out.cells0 x (by rw [hl]; omega)
      have dy := hs.out.cells0 y (by rw [hl]; omega)
      have hB : w.heap.size < wr.heap.size := by
        obtain ⟨p', cap2, e, h⟩ := hs.out
        obtain ⟨hcap2, b2, off2, e2, g1, g2, g3, hc⟩ := h (by rw [hl]; omega)
        omega
      have Hfin := Lib.hid (fun (u : World) (hu : Sw (Value.int .i64) 0 u (.slice (some ⟨w.heap.size, 0, none⟩) p p) (scoresT p fs k) w.heap.size (w.heap.size + 1)) => hu.adds x y (by rw [hl]; omega) (by rw [hl]; omega) a7 (z : Int) (2 - (z : Int)))
      have Hst2 := Lib.hid hst
      clear hst hl
      generalize (scoresT p fs k).getD x 0 = X at *
      generalize (scoresT p fs k).getD y 0 = Y at *
      obtain ⟨dx1, dx2⟩ := dx
      obtain ⟨dy1, dy2⟩ := dy
      have hxy : (x = y) = False := eq_false a7
      have hyx : (y = x) = False := eq_false (Ne.symm a7)
      have Hu := Lib.hid (Hfin.out _ hs.out)
      have Hbu := hb
      clear Hfin hs hb
      go_wp2
      try (go_region; go_wp2)
      try (go_region; go_wp2)
      go_roundw
      case rel => exact ⟨k + 1, by omega, by go_num, Lib.hid (by rw [Hst2.out]; exact Hu.out), Lib.hid (((Hbu.out.setCell (by show _ ≤ w.heap.size; omega) _).setCell (by show _ ≤ w.heap.size; omega) _).drew.drew)⟩
      case measure => simp [intOf]; omega
    · obtain rfl : k = n := by omega
      have HB2 : Hid (w.heap.size + 1 ≤ wr.heap.size) := by
        obtain ⟨q', cap', e1, hf⟩ := hs.out
        obtain ⟨hcap2, b2, off2, e2, g1, g2, g3, hc⟩ := hf (by rw [Hlen.out k]; omega)
        exact Lib.hid g3
      clear Hat Hbd Hst H0 Hlen Hsl
      go_wp2
      go_ret
      exact ⟨_, rfl, hs.out.mono (by omega) HB2.out (Nat.le_refl _), hb.out⟩
set_option maxRecDepth 100000 in
set_option maxHeartbeats 4000000 in
theorem met_specH (P : Int) (n : Nat) (fs : List Int) (v : Value) (w : World) (hn : n ≤ 1048576) (h : SlK 3 w v n fs) (hv : gamesB P n fs = true) :
    Calls Try.prog 54 #[.int .i64 P, v] w fun e w' => ∃ r, e = .returned r ∧ Sw (Value.int .i64) 0 w' r (metT P.toNat fs n) w.heap.size w'.heap.size ∧ Below w.heap.size w w' := by
  obtain ⟨⟨p, rfl, hp1, hp2⟩, hn2, hg⟩ := gamesB_at hv
  rw [Int.toNat_natCast]
  have Hat := Lib.hid (fun k hk => gAt_nat (hg k hk))
  have Hbd := Lib.hid (met_bd p fs)
  have Hlen := Lib.hid (updT_len (p * p) (fun k => gx fs k * p + gy fs k) (fun k => gy fs k * p + gx fs k) (fun _ => 1) (fun _ => 1))
  have Hst := Lib.hid (fun k => show metT p fs (k + 1) = addAt (addAt (metT p fs k) (gx fs k * p + gy fs k) 1) (gy fs k * p + gx fs k) 1 from rfl)
  have H0 := Lib.hid (show metT p fs 0 = List.replicate (p * p) 0 from rfl)
  rw [show updT (p * p) (fun k => gx fs k * p + gy fs k) (fun k => gy fs k * p + gx fs k) (fun _ => 1) (fun _ => 1) = metT p fs from rfl] at Hlen
  have hpl : p * p ≤ 256 := Nat.mul_le_mul hp2 hp2
  have hp0 : 0 < p * p := Nat.mul_pos (by omega) (by omega)
  have hpc : (p : Int) * (p : Int) = ((p * p : Nat) : Int) := (Int.natCast_mul _ _).symm
  obtain ⟨pp, hpp⟩ : ∃ pp, pp = p * p := ⟨_, rfl⟩
  rw [← hpp] at hpl hp0 hpc Hlen H0
  have Hpp := Lib.hid hpp
  clear hpp
  clear hv hg
  obtain ⟨i0, hi, hz0, hz1, hz2⟩ := info_parts (show (Try.prog.info? 2).map (fun i => (i.zero, i.size, i.bytes)) = some (some (.int .i64 0), 1, 8) by kernel_rfl)
  have Hsl := Lib.hid h
  obtain ⟨-, q, cap, rfl, -⟩ := h
  go_enter Try.func54, Try.ntmps54
  go_wp2_with (at_make; refine wpList_make_full _ rfl _ _ 22 rfl w.heap.size 2 i0 (.int .i64 0) 1 (by kernel_rfl) hi hz0 hz1 .i64 .i64 pp pp pp rfl rfl rfl rfl (by rw [hz2]; omega) (by unfold maxLen; omega) (Nat.le_refl _) ?_; intro w1 hown hgrow)
  have hbel : Below w.heap.size w w1 := (Below.refl _ w).grown hgrow (Nat.le_refl _) (by simp)
  have Hown := Lib.hid (sw_made hown)
  have Hbel := Lib.hid hbel
  rw [← H0.out] at Hown
  clear hown hgrow hbel
  go_loopw [13] (fun i wr => ∃ k : Nat, k ≤ n ∧ i = .int .i64 (k : Int) ∧ Hid (Sw (Value.int .i64) 0 wr (.slice (some ⟨w.heap.size, 0, none⟩) pp pp) (metT p fs k) w.heap.size (w.heap.size + 1)) ∧ Hid (Below w.heap.size w wr)) (fun i _ => n - (intOf i).toNat)
  case atStart => exact ⟨0, Nat.zero_le _, rfl, Hown, Hbel⟩
  case round =>
    obtain ⟨k, hk, rfl, hs, hb⟩ := hrel
    have hsz := hb.out.size
    by_cases hlt : k < n
    · obtain ⟨-, q', cap', e1, hf⟩ := Hsl.out
      cases e1
      obtain ⟨hcap, b, off, rfl, hbs, hc⟩ := hf (by omega)
      have c0 : wr.cell? ⟨b, off + k * 3, none⟩ = some (Value.int .i64 (fs.getD (k * 3) 0)) := by rw [hb.out.cell hbs]; exact hc (k * 3) (by omega)
      have c1 : wr.cell? ⟨b, off + k * 3 + 1, none⟩ = some (Value.int .i64 (fs.getD (k * 3 + 1) 0)) := by rw [hb.out.cell hbs]; exact hc (k * 3 + 1) (by omega)
      have c2 : wr.cell? ⟨b, off + k * 3 + 2, none⟩ = some (Value.int .i64 (fs.getD (k * 3 + 2) 0)) := by rw [hb.out.cell hbs]; exact hc (k * 3 + 2) (by omega)
      obtain ⟨a1, a2, a3, a4, a5, a6, a7⟩ := Hat.out k hlt
      rw [a1] at c0
      rw [a2] at c1
      rw [a3] at c2
      have hl := Hlen.out k
      have hst := Hst.out k
      have hbx := Hbd.out k (gx fs k * p + gy fs k)
      have hby := Hbd.out k (gy fs k * p + gx fs k)
      have hbB : b < w.heap.size := by omega
      clear hc hf a1 a2 a3
      generalize gx fs k = x at *
      generalize gy fs k = y at *
      generalize gz fs k = z at *
      have hq1 := at_lt a4 a5
      have hq2 := at_lt a5 a4
      have hq3 := at_ne a4 a5 a7
      have hmc : (x : Int) * (p : Int) = ((x * p : Nat) : Int) := (Int.natCast_mul _ _).symm
      have hmd : (y : Int) * (p : Int) = ((y * p : Nat) : Int) := (Int.natCast_mul _ _).symm
      rw [← Hpp.out] at hq1 hq2
      generalize x * p = m1 at *
      generalize y * p = m2 at *
      have hm1 : m1 ≤ 256 := by omega
      have hm2 : m2 ≤ 256 := by omega
      have dx := hs.out.cells0 (m1 + y) (by rw [hl]; omega)
      have dy := hs.out.cells0 (m2 + x) (by rw [hl]; omega)
      have hB : w.heap.size < wr.heap.size := by
        obtain ⟨p', cap2, e, h⟩ := hs.out
        obtain ⟨hcap2, b2, off2, e2, g1, g2, g3, hc⟩ := h (by rw [hl]; omega)
        omega
      have Hfin := Lib.hid (fun (u : World) (hu : Sw (Value.int .i64) 0 u (.slice (some ⟨w.heap.size, 0, none⟩) pp pp) (metT p fs k) w.heap.size (w.heap.size + 1)) => hu.adds (m1 + y) (m2 + x) (by rw [hl]; omega) (by rw [hl]; omega) hq3 1 1)
      have Hst2 := Lib.hid hst
      clear hst hl
      generalize (metT p fs k).getD (m1 + y) 0 = X at *
      generalize (metT p fs k).getD (m2 + x) 0 = Y at *
      obtain ⟨dx1, dx2⟩ := dx
      obtain ⟨dy1, dy2⟩ := dy
      have hxy : ((m1 + y) = (m2 + x)) = False := eq_false hq3
      have hyx : ((m2 + x) = (m1 + y)) = False := eq_false (Ne.symm hq3)
      have Hu := Lib.hid (Hfin.out _ hs.out)
      have Hbu := hb
      clear Hfin hs hb
      go_wp2
      try (go_region; go_wp2)
      try (go_region; go_wp2)
      go_roundw
      case rel => exact ⟨k + 1, by omega, by go_num, Lib.hid (by rw [Hst2.out]; exact Hu.out), Lib.hid (((Hbu.out.setCell (by show _ ≤ w.heap.size; omega) _).setCell (by show _ ≤ w.heap.size; omega) _).drew.drew)⟩
      case measure => simp [intOf]; omega
    · obtain rfl : k = n := by omega
      have HB2 : Hid (w.heap.size + 1 ≤ wr.heap.size) := by
        obtain ⟨q', cap', e1, hf⟩ := hs.out
        obtain ⟨hcap2, b2, off2, e2, g1, g2, g3, hc⟩ := hf (by rw [Hlen.out k]; omega)
        exact Lib.hid g3
      clear Hat Hbd Hst H0 Hlen Hsl
      go_wp2
      go_ret
      exact ⟨_, rfl, hs.out.mono (by omega) HB2.out (Nat.le_refl _), hb.out⟩
def ok_ScoresOf (P : Int) (n : Nat) (fs : List Int) : Bool := gamesB P n fs
def res_ScoresOf (P : Int) (n : Nat) (fs : List Int) : List Int := if gamesB P n fs = true then scoresT P.toNat fs n else []
theorem len_ScoresOf (P : Int) (n : Nat) (fs : List Int) : (res_ScoresOf P n fs).length ≤ 1048576 := by
  unfold res_ScoresOf
  split
  · rename_i h
    obtain ⟨⟨p, rfl, hp1, hp2⟩, _, _⟩ := gamesB_at h
    have := Nat.mul_le_mul hp2 hp2
    rw [Int.toNat_natCast]
    first
    | (have e := updT_len p (gx fs) (gy fs) (fun k => (gz fs k : Int)) (fun k => 2 - (gz fs k : Int)) n
       show (updT p (gx fs) (gy fs) (fun k => (gz fs k : Int)) (fun k => 2 - (gz fs k : Int)) n).length ≤ _
       rw [e]; omega)
    | (show (updT (p * p) _ _ _ _ n).length ≤ _
       rw [updT_len]; omega)
    | (show (updT p _ _ _ _ n).length ≤ _
       rw [updT_len]; omega)
  · exact Nat.zero_le _
set_option maxHeartbeats 1000000 in
theorem impl_ScoresOf (P : Int) (al : -9223372036854775808 ≤ P) (au : P ≤ 9223372036854775807) (n : Nat) (fs : List Int) (v : Value) (w : World) (hn : n ≤ 1048576) (h : SlK 3 w v n fs) :
    Calls Try.prog 57 #[.int .i64 P, v] w fun e w' => ∃ r, e = .returned (.tuple #[r, .bool (ok_ScoresOf P n fs)]) ∧ Sw (Value.int .i64) 0 w' r (res_ScoresOf P n fs) w.heap.size w'.heap.size ∧ Below w.heap.size w w' := by
  unfold ok_ScoresOf res_ScoresOf
  cases hv : gamesB P n fs
  · rw [if_neg Bool.false_ne_true]
    have Hg := Lib.hid (games_impl P n fs v w hn h)
    rw [hv] at Hg
    obtain ⟨-, q, cap, rfl, -⟩ := h
    go_enter Try.func57, Try.ntmps57
    go_wp2_with (refine (Hg.out).mono ?_; rintro e w0 ⟨rfl, hb⟩; have Hb0 := Lib.hid hb; clear hb)
    go_ret2
    exact ⟨_, rfl, Sw.nil _ _ _ _ _ _ _, Hb0.out⟩
  · rw [if_pos rfl]
    exact scores_implA P n fs v w hn h hv
def ok_MetOf (P : Int) (n : Nat) (fs : List Int) : Bool := gamesB P n fs
def res_MetOf (P : Int) (n : Nat) (fs : List Int) : List Int := if gamesB P n fs = true then metT P.toNat fs n else []
theorem len_MetOf (P : Int) (n : Nat) (fs : List Int) : (res_MetOf P n fs).length ≤ 1048576 := by
  unfold res_MetOf
  split
  · rename_i h
    obtain ⟨⟨p, rfl, hp1, hp2⟩, _, _⟩ := gamesB_at h
    have := Nat.mul_le_mul hp2 hp2
    rw [Int.toNat_natCast]
    first
    | (have e := updT_len p (gx fs) (gy fs) (fun k => (gz fs k : Int)) (fun k => 2 - (gz fs k : Int)) n
       show (updT p (gx fs) (gy fs) (fun k => (gz fs k : Int)) (fun k => 2 - (gz fs k : Int)) n).length ≤ _
       rw [e]; omega)
    | (show (updT (p * p) _ _ _ _ n).length ≤ _
       rw [updT_len]; omega)
    | (show (updT p _ _ _ _ n).length ≤ _
       rw [updT_len]; omega)
  · exact Nat.zero_le _
set_option maxHeartbeats 1000000 in
theorem impl_MetOf (P : Int) (al : -9223372036854775808 ≤ P) (au : P ≤ 9223372036854775807) (n : Nat) (fs : List Int) (v : Value) (w : World) (hn : n ≤ 1048576) (h : SlK 3 w v n fs) :
    Calls Try.prog 59 #[.int .i64 P, v] w fun e w' => ∃ r, e = .returned (.tuple #[r, .bool (ok_MetOf P n fs)]) ∧ Sw (Value.int .i64) 0 w' r (res_MetOf P n fs) w.heap.size w'.heap.size ∧ Below w.heap.size w w' := by
  unfold ok_MetOf res_MetOf
  cases hv : gamesB P n fs
  · rw [if_neg Bool.false_ne_true]
    have Hg := Lib.hid (games_impl P n fs v w hn h)
    rw [hv] at Hg
    obtain ⟨-, q, cap, rfl, -⟩ := h
    go_enter Try.func59, Try.ntmps59
    go_wp2_with (refine (Hg.out).mono ?_; rintro e w0 ⟨rfl, hb⟩; have Hb0 := Lib.hid hb; clear hb)
    go_ret2
    exact ⟨_, rfl, Sw.nil _ _ _ _ _ _ _, Hb0.out⟩
  · rw [if_pos rfl]
    exact met_implA P n fs v w hn h hv
def ok_BuchholzOf (P : Int) (n : Nat) (fs : List Int) : Bool := gamesB P n fs
def res_BuchholzOf (P : Int) (n : Nat) (fs : List Int) : List Int := if gamesB P n fs = true then buchT P.toNat fs (scoresT P.toNat fs n) n else []
theorem len_BuchholzOf (P : Int) (n : Nat) (fs : List Int) : (res_BuchholzOf P n fs).length ≤ 1048576 := by
  unfold res_BuchholzOf
  split
  · rename_i h
    obtain ⟨⟨p, rfl, hp1, hp2⟩, _, _⟩ := gamesB_at h
    have := Nat.mul_le_mul hp2 hp2
    rw [Int.toNat_natCast]
    first
    | (have e := updT_len p (gx fs) (gy fs) (fun k => (gz fs k : Int)) (fun k => 2 - (gz fs k : Int)) n
       show (updT p (gx fs) (gy fs) (fun k => (gz fs k : Int)) (fun k => 2 - (gz fs k : Int)) n).length ≤ _
       rw [e]; omega)
    | (show (updT (p * p) _ _ _ _ n).length ≤ _
       rw [updT_len]; omega)
    | (show (updT p _ _ _ _ n).length ≤ _
       rw [updT_len]; omega)
  · exact Nat.zero_le _
