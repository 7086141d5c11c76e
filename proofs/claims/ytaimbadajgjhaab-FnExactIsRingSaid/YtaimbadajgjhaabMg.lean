/- Contracts: how often dice beat one another, in both texts. -/
import Derived.Test.YtaimbadajgjhaabMc
import Derived.Deep.RegionLawGrows
set_option linter.unusedVariables false
namespace Go.Proofs.Ytaimbadajgjhaab
open Go.RowKit

def sumN (f : Nat → Nat) : Nat → Nat
  | 0 => 0
  | k + 1 => sumN f k + f k
theorem sumN_congr {f g : Nat → Nat} : ∀ k, (∀ i, i < k → f i = g i) → sumN f k = sumN g k
  | 0, _ => rfl
  | k + 1, h => by rw [sumN, sumN, sumN_congr k (fun i hi => h i (by omega)), h k (by omega)]
theorem sumN_zero : ∀ k, sumN (fun _ => 0) k = 0
  | 0 => rfl
  | k + 1 => by rw [sumN, sumN_zero k]
theorem sumN_add (f g : Nat → Nat) : ∀ k, sumN (fun i => f i + g i) k = sumN f k + sumN g k
  | 0 => rfl
  | k + 1 => by rw [sumN, sumN, sumN, sumN_add f g k]; omega
theorem sumN_swap (f : Nat → Nat → Nat) (m : Nat) : ∀ n, sumN (fun i => sumN (fun j => f i j) m) n = sumN (fun j => sumN (fun i => f i j) n) m
  | 0 => (sumN_zero m).symm
  | n + 1 => by
    show sumN (fun i => sumN (fun j => f i j) m) n + sumN (fun j => f n j) m = sumN (fun j => sumN (fun i => f i j) n + f n j) m
    rw [sumN_swap f m n, sumN_add]
theorem cntP_sum (p : Int → Bool) (fs : List Int) : ∀ k, cntP p fs k = sumN (fun i => if p (fs.getD i 0) = true then 1 else 0) k
  | 0 => rfl
  | k + 1 => by rw [cntP, sumN, cntP_sum p fs k]
/-- in how many pairs with the first k faces that of fs is greater -/
def beatN (fs gs : List Int) (k : Nat) : Nat := sumN (fun i => cntP (fun y => decide (y < fs.getD i 0)) gs gs.length) k
def lessN (fs gs : List Int) (k : Nat) : Nat := sumN (fun i => cntP (fun y => decide (fs.getD i 0 < y)) gs gs.length) k
theorem less_beat (fs gs : List Int) : lessN fs gs fs.length = beatN gs fs gs.length := by
  unfold lessN beatN
  rw [sumN_congr _ (fun i _ => cntP_sum _ gs gs.length), sumN_congr _ (fun i _ => cntP_sum _ fs fs.length)]
  exact sumN_swap (fun i j => if decide (fs.getD i 0 < gs.getD j 0) = true then 1 else 0) gs.length fs.length
theorem beatN_le (fs gs : List Int) (hm : gs.length ≤ 12) (k : Nat) : beatN fs gs k ≤ k * 12 := by
  induction k with
  | zero => exact Nat.le_refl _
  | succ k ih =>
    have := cntP_le (fun y => decide (y < fs.getD k 0)) gs gs.length
    show beatN fs gs k + cntP (fun y => decide (y < fs.getD k 0)) gs gs.length ≤ _
    omega
theorem lessN_le (fs gs : List Int) (hm : gs.length ≤ 12) (k : Nat) : lessN fs gs k ≤ k * 12 := by
  induction k with
  | zero => exact Nat.le_refl _
  | succ k ih =>
    have := cntP_le (fun y => decide (fs.getD k 0 < y)) gs gs.length
    show lessN fs gs k + cntP (fun y => decide (fs.getD k 0 < y)) gs gs.length ≤ _
    omega

theorem clo_beats (y x : Int) (B : Nat) (w : World) (c1 : w.cell? ⟨B, 0, none⟩ = some (.int .i64 x)) :
    Calls Try.prog 91 #[.int .i64 y, .pointer (some ⟨B, 0, none⟩)] w fun e w' => e = .returned (.bool (decide (y < x))) ∧ w = w' := by
  go_enter Try.func91, Try.ntmps91
  go_wp2
  go_ret
  exact ⟨rfl, rfl⟩
set_option maxHeartbeats 2000000 in
theorem beats_any (fs gs : List Int) (v u : Value) (w : World) (hn : fs.length ≤ 12) (hm : gs.length ≤ 12) (h : Dv w v fs) (g : Dv w u gs) :
    Calls Try.prog 64 #[v, u] w fun e w' => e = .returned (.int .i64 ((beatN fs gs fs.length : Nat) : Int)) ∧ Below w.heap.size w w' := by
  obtain ⟨s, rfl, h⟩ := h
  obtain ⟨t, rfl, g⟩ := g
  obtain ⟨p, cap, rfl, hf⟩ := h
  have Hf := Lib.hid hf
  have Hcw := Lib.hid (fun K bound caps q z hz hent hc => countW_any gs t K bound caps q z (by omega) (g.later hz) hent hc)
  clear hf g
  have Hle := Lib.hid (beatN_le fs gs hm)
  have Hc1 := Lib.hid (fun q => cntP_le q gs gs.length)
  have Hst := Lib.hid (fun k => show beatN fs gs (k + 1) = beatN fs gs k + cntP (fun y => decide (y < fs.getD k 0)) gs gs.length from rfl)
  have hb0 := ((Below.refl _ w).alloc (Nat.le_refl _) (.cells #[.slice p fs.length cap] 27)).alloc (by simp) (.cells #[t] 27)
  have b3 := Boxed.new (w.alloc (.cells #[.slice p fs.length cap] 27)) 27 t
  simp only [World.size_alloc] at b3
  generalize fs.length = n at *
  generalize hW : (w.alloc (.cells #[.slice p n cap] 27)).alloc (.cells #[t] 27) = W at hb0 b3
  have HW := Lib.hid hW
  have hWs : w.heap.size + 1 + 1 = W.heap.size := by rw [← hW]; simp
  have Hb0 := Lib.hid hb0
  have Hb3 := Lib.hid b3
  clear hb0 hW b3
  go_enter Try.func64, Try.ntmps64
  go_wp2
  rw [HW.out]
  go_loopw [5, 11] (fun c i wr => ∃ k : Nat, k ≤ n ∧ i = .int .i64 (k : Int) ∧ c = .int .i64 ((beatN fs gs k : Nat) : Int) ∧ Hid (Below W.heap.size W wr)) (fun _ i _ => n - (intOf i).toNat)
  case atStart => exact ⟨0, Nat.zero_le _, rfl, rfl, Lib.hid (Below.refl _ _)⟩
  case round =>
    obtain ⟨k, hk, rfl, rfl, Hd⟩ := hrel
    have hsz := Hd.out.size
    have hle := Hle.out k
    by_cases hlt : k < n
    · obtain ⟨hcap, b, off, rfl, hbs, hcell⟩ := Hf.out (by omega)
      have hwW : Below w.heap.size w wr := Hb0.out.trans (Hd.out.mono Hb0.out.size)
      have c1 := cell_keep hwW (hcell k hlt)
      have b4 := box_below Hb3.out Hd.out Hb3.out.lt
      have c2 := (b4.alloc (.cells #[.int .i64 (fs.getD k 0)] 2)).cell
      have Hcall := Lib.hid (Hcw.out 91 #[] #[.pointer (some ⟨wr.heap.size, 0, none⟩)] (fun y => decide (y < fs.getD k 0)) (wr.alloc (.cells #[.int .i64 (fs.getD k 0)] 2)) (hwW.alloc hwW.size _)
        (run_enter Try.func91 (by kernel_rfl) (by kernel_rfl))
        (fun j w' hj hd => (clo_beats (gs.getD j 0) (fs.getD k 0) wr.heap.size w' (cell_keep hd (World.cell?_alloc_at _ _ _ _ rfl))).mono fun e w'' ⟨h1, h2⟩ => ⟨h1, by rw [h2]; exact Below.refl _ _⟩))
      have hst := Hst.out k
      have hcb := Hc1.out (fun y => decide (y < fs.getD k 0))
      generalize hC : cntP (fun y => decide (y < fs.getD k 0)) gs gs.length = C at *
      clear hC hcell b4
      have Hst2 := Lib.hid hst
      clear hst
      generalize fs.getD k 0 = x at *
      generalize beatN fs gs k = Z at *
      have Hal := Lib.hid ((Hd.out.alloc hsz (.cells #[.int .i64 x] 2)))
      have hwz := hwW.size
      clear hwW
      go_wp2_with (refine (Hcall.out).mono ?_; rintro e w' ⟨rfl, hb2⟩; have Hb2 := Lib.hid (Hal.out.trans (hb2.mono Hal.out.size)); clear hb2)
      go_roundw
      case rel => exact ⟨k + 1, by omega, by go_num, by rw [Hst2.out]; go_num, Hb2⟩
      case measure => simp [intOf]; omega
    · obtain rfl : k = n := by omega
      go_wp2
      go_ret
      exact ⟨rfl, Hb0.out.trans (Hd.out.mono Hb0.out.size)⟩
theorem pairs_any (fs gs : List Int) (v u : Value) (w : World) (hn : fs.length ≤ 12) (hm : gs.length ≤ 12) (h : Dv w v fs) (g : Dv w u gs) :
    Calls Try.prog 65 #[v, u] w fun e w' => e = .returned (.int .i64 ((fs.length : Int) * (gs.length : Int))) ∧ Below w.heap.size w w' := by
  obtain ⟨s, rfl, h⟩ := h
  obtain ⟨t, rfl, g⟩ := g
  obtain ⟨p, cap, rfl, -⟩ := h
  obtain ⟨q, cap', rfl, -⟩ := g
  generalize fs.length = n at *
  generalize gs.length = m at *
  have hb0 := Lib.hid (((Below.refl _ w).alloc (Nat.le_refl _) (.cells #[.slice p n cap] 27)).alloc (by simp) (.cells #[.slice q m cap'] 27))
  have hmul := Nat.mul_le_mul hn hm
  have m1 : 0 ≤ (n : Int) * (m : Int) := Int.mul_nonneg (by omega) (by omega)
  have m2 : (n : Int) * (m : Int) ≤ 144 := by rw [← Int.natCast_mul]; omega
  go_enter Try.func65, Try.ntmps65
  go_wp2
  go_ret
  exact ⟨rfl, hb0.out⟩
end Go.Proofs.Ytaimbadajgjhaab
