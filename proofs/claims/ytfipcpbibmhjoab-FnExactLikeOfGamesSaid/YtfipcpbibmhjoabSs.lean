/- Lists of 32-bit numbers in the law, how many of them something holds of, the logarithm told canonically. -/
import Derived.Test.YtfipcpbibmhjoabNume
import Derived.Test.YtfipcpbibmhjoabKb
import Derived.Test.YtfipcpbibmhjoabSx
import Derived.Test.YtfipcpbibmhjoabDb
import Derived.Test.YtfipcpbibmhjoabSo
set_option linter.unusedVariables false
namespace Go.Proofs.Ytfipcpbibmhjoab
open Go.RowKit Fl

set_option maxHeartbeats 400000 in
theorem toF_any (fs : List Nat) (v : Value) (w : World) (hn : fs.length ≤ 1048576) (h : Sl (Value.float .f32) 0 w v fs) :
    Calls Try.prog 27 #[v] w fun e w' => ∃ v', e = .returned v' ∧ Sw (Value.float .f32) 0 w' v' fs w.heap.size w'.heap.size ∧ Below w.heap.size w w' := by
  obtain ⟨p, cap, rfl, hf⟩ := h
  obtain ⟨i0, hi, hz0, hz1, hz2⟩ := info_parts (show (Try.prog.info? 40).map (fun i => (i.zero, i.size, i.bytes)) = some (some (Value.float .f32 0), 1, 4) by kernel_rfl)
  have Hf := Lib.hid hf
  clear hf
  generalize hlen : fs.length = n at *
  have Hlen := Lib.hid hlen
  clear hlen
  go_enter Try.func27, Try.ntmps27
  go_wp2_with (at_make; refine wpList_make_full _ rfl _ _ 30 rfl w.heap.size 40 i0 (Value.float .f32 0) 1 (by kernel_rfl) hi hz0 hz1 .i64 .i64 n n n rfl rfl rfl rfl (by rw [hz2]; omega) (by unfold maxLen; omega) (Nat.le_refl _) ?_; intro w1 hown hgrow)
  have hbel : Below w.heap.size w w1 := (Below.refl _ w).grown hgrow (Nat.le_refl _) (by simp)
  have Hown := Lib.hid hown
  clear hown
  go_loopw [4] (fun i wr => ∃ k : Nat, k ≤ n ∧ i = .int .i64 k ∧ wr.ownsRow w.heap.size 40 1 (.slice (some ⟨w.heap.size, 0, none⟩) n n) n (copied (Value.float .f32) (Value.float .f32 0) fs k) ∧ Below w.heap.size w wr) (fun i _ => n - (intOf i).toNat)
  case atStart =>
    refine ⟨0, Nat.zero_le _, rfl, ?_, hbel⟩
    have h0 := Hown.out
    have e : (madeCells (Value.float .f32 0).cells (n * 1)).toList = copied (Value.float .f32) (Value.float .f32 0) fs 0 := by
      unfold copied
      rw [Hlen.out, Nat.mul_one, Nat.sub_zero, List.take_zero, List.map_nil, List.nil_append]
      exact made1 _ n
    rw [e] at h0
    exact h0
  case round =>
    obtain ⟨k, hk, rfl, hown, hb⟩ := hrel
    by_cases hlt : k < n
    · obtain ⟨hcap, b, off, rfl, hbs, hc⟩ := Hf.out (by omega)
      have c1 : wr.cell? ⟨b, off + k, none⟩ = some (Value.float .f32 (fs.getD k 0)) := by rw [hb.cell hbs]; exact hc k hlt
      have c2 : wr.cell? ⟨w.heap.size, k, none⟩ = some (Value.float .f32 0) := by rw [hown.cellAt k (by omega)]; exact copied_at _ _ _ _ (by rw [Hlen.out]; exact hlt)
      have c3 := hown.frozenAt k
      obtain ⟨hs1, _⟩ := hown.stored k (Value.float .f32 (fs.getD k 0))
      rw [show Value.float .f32 (fs.getD k 0) = ((Value.float .f32)) (fs.getD k 0) from rfl, copied_set _ _ _ _ _ (by rw [Hlen.out]; exact hlt)] at hs1
      have Hs1 := Lib.hid hs1
      have Hb := Lib.hid hb
      have hsz := hb.size
      clear hs1 hown hc hb
      go_wp2
      go_roundw
      case rel => exact ⟨k + 1, by omega, by go_num, Hs1.out, Hb.out.setCell (Nat.le_refl _) _⟩
      case measure => simp [intOf]; omega
    · obtain rfl : k = n := by omega
      have Hown2 := Lib.hid hown
      have Hb := Lib.hid hb
      clear hown hb
      go_wp2
      go_ret
      refine ⟨_, rfl, ⟨_, k, by rw [Hlen.out]; rfl, fun h0 => ⟨by rw [Hlen.out]; exact Nat.le_refl _, w.heap.size, 0, rfl, Nat.le_refl _, (Hown2.out.lt _ rfl).2, Nat.le_refl _, fun i hi2 => ⟨?_, ?_⟩⟩⟩, Hb.out⟩
      · rw [Nat.zero_add, Hown2.out.cellAt i (by rw [Hlen.out] at hi2; omega)]
        have := copied_done (Value.float .f32) (Value.float .f32 0) fs 0 i hi2
        rw [Hlen.out] at this
        exact this
      · rw [Nat.zero_add]; exact Hown2.out.frozenAt i


def logC (c : Nat) : Nat := if isNan .f32 c = true ∨ 2147483648 < c then nanOf .f32 else if c % 2147483648 = 0 then 4286578688 else if c = 2139095040 then c else cn .f32 ((floatToFloatBits .f64 (logF ((floatToFloatBits .f32 c .f64).getD 0)) .f32).getD 0)
theorem logC_of {x r : Nat} (hx : x < 4294967296) (h : LogR x r) : cn .f32 r = logC (cn .f32 x) := by
  obtain ⟨h1, h2, h3, h4⟩ := h
  by_cases hn : isNan .f32 x = true
  · rw [cn_nan (h1 (.inl hn)), cn_nan hn]
    unfold logC
    rw [if_pos (.inl (isNan_nanOf _))]
  · have hn' : isNan .f32 x = false := Bool.eq_false_iff.2 hn
    rw [cn_notNan hn']
    unfold logC
    by_cases c1 : 2147483648 < x
    · rw [if_pos (.inr c1), cn_nan (h1 (.inr c1))]
    · rw [if_neg (fun h => h.elim hn c1)]
      rw [isNan32] at hn'
      have hn2 := of_decide_eq_false hn'
      by_cases c2 : x % 2147483648 = 0
      · rw [if_pos c2, h2 c2]; decide +kernel
      · rw [if_neg c2]
        by_cases c3 : x = 2139095040
        · rw [if_pos c3, h3 c3, c3]; decide +kernel
        · rw [if_neg c3]
          obtain ⟨u, a1, a2⟩ := h4 (by omega) (by omega)
          rw [a1]
          show _ = cn .f32 ((floatToFloatBits .f64 (logF u) .f32).getD 0)
          rw [a2]; rfl
set_option maxHeartbeats 1000000 in
theorem countF_any (fs : List Nat) (v : Value) (K : Nat) (bound caps : Array Value) (p : Nat → Bool) (w : World) (hn : fs.length ≤ 1048576) (h : Sl (Value.float .f32) 0 w v fs)
    (hent : ∀ args w, (callFunc K args).run Try.prog w = .ok (.enter K args) w)
    (hc : ∀ k w', k < fs.length → Calls Try.prog K (bound ++ #[.float .f32 (fs.getD k 0)] ++ caps) w' fun e w'' => e = .returned (.bool (p k)) ∧ Drawn w' w'') :
    Calls Try.prog 68 #[v, .func (.func K) bound caps] w fun e w' => e = .returned (.int .i64 ((cntQ p fs.length : Nat) : Int)) ∧ Drawn w w' := by
  have Hc := Lib.hid hc
  clear hc
  obtain ⟨q, cap, rfl, hf⟩ := h
  have Hf := Lib.hid hf
  clear hf
  have Hle := Lib.hid (cntQ_le p)
  have Hst := Lib.hid (fun k => show cntQ p (k + 1) = cntQ p k + (if p k = true then 1 else 0) from rfl)
  obtain ⟨n, hn1⟩ : ∃ n, n = fs.length := ⟨_, rfl⟩
  rw [← hn1] at hn Hf Hc ⊢
  clear hn1
  go_enter Try.func68, Try.ntmps68
  go_wp2
  go_loopw [5, 10] (fun c i wr => ∃ k : Nat, k ≤ n ∧ i = .int .i64 (k : Int) ∧ c = .int .i64 ((cntQ p k : Nat) : Int) ∧ Drawn w wr) (fun _ i _ => n - (intOf i).toNat)
  case atStart => exact ⟨0, Nat.zero_le _, rfl, rfl, Drawn.refl _⟩
  case round =>
    obtain ⟨k, hk, rfl, rfl, hw⟩ := hrel
    have hle := Hle.out k
    by_cases hlt : k < n
    · have Hcall := Lib.hid (Hc.out k wr hlt)
      obtain ⟨hcap, b, off, rfl, hbs, hcell⟩ := Hf.out (by omega)
      have c1 := (hw.cell _).trans (hcell k hlt)
      have hst := Hst.out k
      clear hcell
      generalize fs.getD k 0 = x at *
      cases hp : p k
      · rw [hp] at hst Hcall
        rw [if_neg Bool.false_ne_true, Nat.add_zero] at hst
        have Hst2 := Lib.hid hst
        clear hst hp
        go_wp2_with (refine (Hcall.out).mono ?_; rintro e w' ⟨rfl, hd⟩; have Hd := Lib.hid (hw.trans hd); clear hd)
        go_roundw
        case rel => exact ⟨k + 1, by omega, by go_num, by rw [Hst2.out]; first | rfl | go_num, Hd.out⟩
        case measure => simp [intOf]; omega
      · rw [hp] at hst Hcall
        rw [if_pos rfl] at hst
        have Hst2 := Lib.hid hst
        clear hst hp
        generalize cntQ p k = C at *
        go_wp2_with (refine (Hcall.out).mono ?_; rintro e w' ⟨rfl, hd⟩; have Hd := Lib.hid (hw.trans hd); clear hd)
        go_roundw
        case rel => exact ⟨k + 1, by omega, by go_num, by rw [Hst2.out]; first | rfl | go_num, Hd.out⟩
        case measure => simp [intOf]; omega
    · obtain rfl : k = n := by omega
      go_wp2
      go_ret
      exact ⟨rfl, hw⟩
theorem lt_getD {fs : List Nat} (h : ∀ x ∈ fs, x < 4294967296) (k : Nat) : fs.getD k 0 < 4294967296 := by
  by_cases hk : k < fs.length
  · rw [getD_lt fs 0 k hk]; exact h _ (List.getElem_mem _)
  · rw [List.getD_eq_getElem?_getD, List.getElem?_eq_none (by omega)]; decide
theorem positive_impl (y : Nat) (hy : y < 4294967296) (w : World) : Calls Try.prog 69 #[.float .f32 y] w fun e w' => e = .returned (.bool (aboveB y)) ∧ Drawn w w' := by
  have Hf := Lib.hid (fun z => isFinite_any y hy z)
  have hb : finB y = finB3 y := rfl
  rw [hb] at Hf
  clear hb
  cases hg : (FloatKind.f32.format.order y 0 == some .gt)
  · have E := Lib.hid (show aboveB y = false by unfold aboveB gtB; rw [hg, Bool.and_false])
    go_enter Try.func69, Try.ntmps69
    go_wp2
    go_ret
    exact ⟨ret_bool E.out.symm, Drawn.refl _⟩
  · have E := Lib.hid (show aboveB y = finB3 y by unfold aboveB gtB; rw [hg, Bool.and_true])
    generalize finB3 y = R at *
    go_enter Try.func69, Try.ntmps69
    go_wp2_with (go_at_call 111; refine (Hf.out _).mono ?_; rintro e w' ⟨rfl, n, rfl⟩)
    go_ret
    exact ⟨ret_bool E.out.symm, n, rfl⟩
def posAll (ss : List Nat) : Bool := (List.range ss.length).all (fun k => aboveB (ss.getD k 0))
theorem positives_any (ss : List Nat) (v : Value) (w : World) (hn : ss.length ≤ 1048576) (hw : ∀ x ∈ ss, x < 4294967296) (h : Sl (Value.float .f32) 0 w v ss) :
    Calls Try.prog 68 #[v, .func (.func 69) #[] #[]] w fun e w' => ∃ C : Nat, C ≤ ss.length ∧ e = .returned (.int .i64 (C : Int)) ∧ ((C : Int) == (ss.length : Int)) = posAll ss ∧ Drawn w w' :=
  (countF_any ss v 69 #[] #[] (fun k => aboveB (ss.getD k 0)) w hn h (run_enter Try.func69 (by kernel_rfl) (by kernel_rfl)) (fun k w' hk => positive_impl _ (lt_getD hw k) w')).mono fun e w' ⟨h1, h2⟩ => ⟨_, cntQ_le _ _, h1, cntQ_all _ _, h2⟩
end Go.Proofs.Ytfipcpbibmhjoab
