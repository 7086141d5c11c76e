/- Contracts: coins on a balance, the program: which coin is heavy. -/
import Derived.Test.YtodmaomngpnboaaCwB
set_option linter.unusedVariables false
namespace Go.Proofs.Ytodmaomngpnboaa
open Go.RowKit

theorem back1 (t : Nat) : Value.int .i64 (t : Int) = .int .i64 (((t + 1 : Nat) : Int) - 1) := by congr 1; omega
/-- those of -1, 0, .. that make the balance show this -/
def hvL (fs : List Int) (k cnt : Nat) (sh : List Int) : Nat → List Int
  | 0 => []
  | t + 1 => hvL fs k cnt sh t ++ (if wghL fs k cnt ((t : Int) - 1) = sh then [(t : Int) - 1] else [])
theorem hvL_len (fs : List Int) (k cnt : Nat) (sh : List Int) : ∀ t, (hvL fs k cnt sh t).length ≤ t
  | 0 => Nat.le_refl _
  | t + 1 => by have := hvL_len fs k cnt sh t; unfold hvL; split <;> simp <;> omega
theorem hvL_yes {fs : List Int} {k cnt : Nat} {sh : List Int} {t : Nat} (h : wghL fs k cnt ((t : Int) - 1) = sh) : hvL fs k cnt sh (t + 1) = hvL fs k cnt sh t ++ [(t : Int) - 1] := by rw [hvL, if_pos h]
theorem hvL_no {fs : List Int} {k cnt : Nat} {sh : List Int} {t : Nat} (h : ¬ wghL fs k cnt ((t : Int) - 1) = sh) : hvL fs k cnt sh (t + 1) = hvL fs k cnt sh t := by rw [hvL, if_neg h, List.append_nil]
theorem wghL_len (fs : List Int) (k cnt : Nat) (h : Int) : (wghL fs k cnt h).length = cnt := tab_len _ _
theorem own_addC {w : World} {base : Nat} {e : TypeId} {v : Value} {l : List Int} {x : Int} (h : w.ownsRow base e 1 v (l.length + 1) (l.map (Value.int .i64) ++ [.int .i64 x])) : w.ownsRow base e 1 v (l ++ [x]).length ((l ++ [x]).map (Value.int .i64)) := by
  rw [List.length_append, List.map_append]; exact h
theorem own_laterC {w w' : World} {base : Nat} {e : TypeId} {size : Nat} {v : Value} {n : Nat} {xs : List Value} (h : w.ownsRow base e size v n xs) (hb : Below w.heap.size w w') : w'.ownsRow base e size v n xs :=
  h.kept (row := none) ⟨hb.os, hb.tape, hb.output, hb.size, fun k hk _ => hb.block k hk⟩ (by cases v.ownBlock <;> simp)
set_option maxHeartbeats 2000000 in
theorem heavy_any (fs sh : List Int) (k cnt L cap : Nat) (p : Option Addr) (r u : Value) (w : World) (hk : 1 ≤ k) (hk2 : k ≤ 27) (hc : cnt ≤ 4) (hf : fs.length = cnt * k) (hS : Sl (Value.int .i64) 0 w (.slice p L cap) fs) (hr : Sl (partV p k) 0 w r (List.range cnt)) (hm : sh.length ≤ 1048576) (hu : Sl (Value.int .i64) 0 w u sh) :
    Calls Try.prog 86 #[.int .i64 (k : Int), r, u] w fun e w' => ∃ o, e = .returned o ∧ Sw (Value.int .i64) 0 w' o (hvL fs k cnt sh (k + 1)) w.heap.size w'.heap.size ∧ Below w.heap.size w w' := by
  obtain ⟨i0, hi, hz0, hz1, hz2⟩ := info_parts (show (Try.prog.info? 2).map (fun i => (i.zero, i.size, i.bytes)) = some (some (.int .i64 0), 1, 8) by kernel_rfl)
  have HSh := Lib.hid (fun (h : Int) z (h1 : -1 ≤ h) (h2 : h < k) (hz : Below w.heap.size w z) => shown_any fs k cnt L cap p r h z hk hk2 hc hf h1 h2 (hS.later hz) (hr.later hz))
  have HU := Lib.hid hu
  have Hyes := Lib.hid (fun t => @hvL_yes fs k cnt sh t)
  have Hno := Lib.hid (fun t => @hvL_no fs k cnt sh t)
  have Hln := Lib.hid (fun t => hvL_len fs k cnt sh t)
  obtain ⟨q, capr, rfl, hrf⟩ := hr
  obtain ⟨q2, cap2, rfl, huf⟩ := hu
  rw [List.length_range] at HSh ⊢
  clear hf hS hrf huf
  go_enter Try.func86, Try.ntmps86
  go_wp2
  go_loopw [7, 8] (fun out i wr => ∃ t : Nat, t ≤ k + 1 ∧ i = .int .i64 ((t : Int) - 1) ∧ wr.ownsRow w.heap.size 2 1 out (hvL fs k cnt sh t).length ((hvL fs k cnt sh t).map (Value.int .i64)) ∧ Hid (Below w.heap.size w wr)) (fun _ i _ => (k + 1 - (intOf i + 1)).toNat)
  case atStart => exact ⟨0, Nat.zero_le _, rfl, World.ownsRow_nil _ _ _ _, Lib.hid (Below.refl _ _)⟩
  case round =>
    obtain ⟨t, ht, rfl, hown, hb⟩ := hrel
    have Hown := Lib.hid hown
    have hsz := hb.out.size
    have hln := Hln.out t
    clear hown
    by_cases hlt : t < k + 1
    · have HC := Lib.hid (HSh.out ((t : Int) - 1) wr (by omega) (by omega) hb.out)
      have d1 : decide ((t : Int) - 1 < (k : Int)) = true := decide_eq_true (by omega)
      have hy := Hyes.out t
      have hn := Hno.out t
      have hwl := wghL_len fs k cnt ((t : Int) - 1)
      generalize wghL fs k cnt ((t : Int) - 1) = W at *
      have Hy := Lib.hid hy
      have Hn := Lib.hid hn
      have Hwl := Lib.hid hwl
      clear hy hn hwl
      go_wp2_with fail
      refine HC.out.mono ?_
      rintro e w1 ⟨o, rfl, ho, hb1⟩
      have HE := Lib.hid (eqS_any W sh o _ w1 (by rw [Hwl.out]; omega) hm ho.sl (HU.out.later (hb.out.trans (hb1.mono hsz))))
      have Hown1 := Lib.hid (own_laterC Hown.out hb1)
      have Hb1 := Lib.hid (hb.out.trans (hb1.mono hsz))
      clear ho hb1 HC
      by_cases he : W = sh
      · have HE2 := Lib.hid HE.out
        rw [decide_eq_true he] at HE2
        have Hy2 := Lib.hid (Hy.out he)
        clear he HE
        go_wp2_with fail
        refine HE2.out.mono ?_
        rintro e w2 ⟨rfl, nq, rfl⟩
        have Hown2 : Hid ((w1.drewN nq).ownsRow w.heap.size 2 1 _ (hvL fs k cnt sh t).length ((hvL fs k cnt sh t).map (Value.int .i64))) := Lib.hid Hown1.out
        have hz1' := Hb1.out.size
        go_wp2_with (at_builtin; refine wpList_append_own _ rfl _ _ 22 rfl w.heap.size 2 i0 (.int .i64 0) 1 8 (by kernel_rfl) hi hz0 hz1 hz2 rfl (by decide) _ _ _ rfl (Hown2.out.alloc _) ⟨(w1.drewN nq).heap.size, 0, none⟩ 1 1 [.int .i64 ((t : Int) - 1)] rfl rfl (cell_one_new _ _ _) (one_int _) (by unfold maxLen; omega) (by omega) (by simp; omega) ?_; intro v2 w2 hown2 hgrow2 hne2; clear hne2)
        have Hown3 := Lib.hid (own_addC hown2)
        have Hb3 := Lib.hid (((below_drewN Hb1.out nq).alloc (by simpa using hz1') _).grown hgrow2 (by simp; omega) (fun b hb => (Hown1.out.lt b hb).1))
        clear hown2 hgrow2
        go_wp2
        go_roundw
        case rel => exact ⟨t + 1, by omega, back1 t, by rw [Hy2.out]; exact Hown3.out, Hb3⟩
        case measure => simp [intOf]; omega
      · have HE2 := Lib.hid HE.out
        rw [decide_eq_false he] at HE2
        have Hn2 := Lib.hid (Hn.out he)
        clear he HE
        go_wp2_with fail
        refine HE2.out.mono ?_
        rintro e w2 ⟨rfl, nq, rfl⟩
        go_wp2
        go_roundw
        case rel => exact ⟨t + 1, by omega, back1 t, by rw [Hn2.out]; exact Hown1.out, Lib.hid (below_drewN Hb1.out _)⟩
        case measure => simp [intOf]; omega
    · obtain rfl : t = k + 1 := by omega
      have d1 : decide (((k + 1 : Nat) : Int) - 1 < (k : Int)) = false := decide_eq_false (by omega)
      go_wp2
      go_ret
      exact ⟨_, rfl, Sw.of_owns Hown.out rfl, hb.out⟩
end Go.Proofs.Ytodmaomngpnboaa
