/- Contracts: shares of prizes, in both texts. -/
import Derived.Test.YtadbblidmmekiaaKi
import Derived.Deep.RegionWith
import Derived.IntWalk
set_option linter.unusedVariables false
namespace Go.Proofs.Ytadbblidmmekiaa
open Go.RowKit Fl

def shrC (C : List Nat) (ps : List Int) (n i : Nat) : Nat → Nat
  | 0 => 0
  | k + 1 => fop .add .f32 (shrC C ps n i k) (fop .mul .f32 (C.getD (i * n + k) 0) (floatOfInt .f32 (ps.getD k 0)))
theorem shr_step {c d s g m r : Nat} {x : Int} (hs : cn .f32 s = c) (hg : cn .f32 g = d) (h1 : FopR .mul .f32 g (floatOfInt .f32 x) m) (h2 : FopR .add .f32 s m r) : cn .f32 r = fop .add .f32 c (fop .mul .f32 d (floatOfInt .f32 x)) := by
  rw [cn_of_cn h2, hs, cn_of_cn h1, hg, cn_notNan (ofInt_notNan x)]
def shrL (C : List Nat) (ps : List Int) (n i : Nat) : List Nat := (List.range i).map fun j => shrC C ps n j n
theorem shrL_next (C : List Nat) (ps : List Int) (n i : Nat) : shrL C ps n (i + 1) = shrL C ps n i ++ [shrC C ps n i n] := by unfold shrL; rw [List.range_succ, List.map_append]; rfl
theorem shrL_len (C : List Nat) (ps : List Int) (n i : Nat) : (shrL C ps n i).length = i := by simp [shrL]
/-- the row of shares on the way -/
def shrM (C : List Nat) (ps : List Int) (n i k : Nat) : List Nat := (List.range n).map fun j => if j < i then shrC C ps n j n else if j = i then shrC C ps n i k else 0
theorem shrM_len (C : List Nat) (ps : List Int) (n i k : Nat) : (shrM C ps n i k).length = n := by simp [shrM]
theorem shrM_zero (C : List Nat) (ps : List Int) (n : Nat) : shrM C ps n 0 0 = List.replicate n 0 := by
  apply List.ext_getElem
  · simp [shrM]
  · intro j h1 h2
    simp [shrM, shrC]
theorem shrM_row (C : List Nat) (ps : List Int) (n i : Nat) : shrM C ps n i n = shrM C ps n (i + 1) 0 := by
  apply List.ext_getElem
  · simp [shrM]
  · intro j h1 h2
    simp only [shrM, List.getElem_map, List.getElem_range]
    by_cases e : j < i
    · rw [if_pos e, if_pos (by omega)]
    · by_cases e2 : j = i
      · subst e2; rw [if_neg e, if_pos rfl, if_pos (by omega)]
      · rw [if_neg e, if_neg e2, if_neg (by omega)]
        split
        · rfl
        · rfl
theorem shrM_done (C : List Nat) (ps : List Int) (n : Nat) : shrM C ps n n 0 = shrL C ps n n := by
  apply List.ext_getElem
  · simp [shrM, shrL]
  · intro j h1 h2
    have hj : j < n := by simpa [shrM] using h1
    simp only [shrM, shrL, List.getElem_map, List.getElem_range]
    rw [if_pos hj]
theorem shrM_get (C : List Nat) (ps : List Int) (n i k : Nat) (hi : i < n) : (shrM C ps n i k).getD i 0 = shrC C ps n i k := by
  simp [shrM, List.getD, hi]
theorem shrM_set (C : List Nat) (ps : List Int) (n i k : Nat) (hi : i < n) : (shrM C ps n i k).set i (shrC C ps n i (k + 1)) = shrM C ps n i (k + 1) := by
  apply List.ext_getElem
  · simp [shrM]
  · intro j h1 h2
    rw [List.getElem_set]
    simp only [shrM, List.getElem_map, List.getElem_range]
    by_cases e : i = j
    · subst e; rw [if_pos rfl, if_neg (by omega), if_pos rfl]
    · rw [if_neg e]
      by_cases e2 : j < i
      · rw [if_pos e2, if_pos e2]
      · rw [if_neg e2, if_neg (Ne.symm e), if_neg e2, if_neg (Ne.symm e)]

def ok_PrizeShares (fs ps : List Int) : Bool := stackB fs && (decide (ps.length = fs.length) && stakesB ps)
def res_PrizeShares (fs ps : List Int) : List Nat := if ok_PrizeShares fs ps = true then shrL (allC fs fs.length) ps fs.length fs.length else []
theorem len_PrizeShares (fs ps : List Int) : (res_PrizeShares fs ps).length ≤ 1048576 := by
  unfold res_PrizeShares
  split
  · rename_i h
    rw [shrL_len]
    unfold ok_PrizeShares at h
    rw [Bool.and_eq_true] at h
    have := (stackB_yes h.1).2.1
    omega
  · exact Nat.zero_le _
theorem ps_no (fs ps : List Int) (h : ok_PrizeShares fs ps = false) : res_PrizeShares fs ps = [] := by unfold res_PrizeShares; rw [h]; exact if_neg Bool.false_ne_true
theorem ps_yes (fs ps : List Int) (h : ok_PrizeShares fs ps = true) : res_PrizeShares fs ps = shrL (allC fs fs.length) ps fs.length fs.length := by unfold res_PrizeShares; rw [h]; exact if_pos rfl
theorem OwnF.snoc' {w2 : World} {base : Nat} {v2 : Value} {C gs : List Nat} {c r : Nat} (e : gs.map (cn .f32) = C) (hr : cn .f32 r = c) (h : w2.ownsRow base 55 1 v2 (C.length + 1) (gs.map (Value.float .f32) ++ [.float .f32 r])) : OwnF w2 base v2 (C ++ [c]) :=
  ⟨gs ++ [r], by rw [List.map_append, e, ← hr]; rfl, by rw [List.length_append, List.map_append]; exact h⟩
theorem ret2b' {v : Value} {a b : Bool} (h : a = b) : Ending.returned (.tuple #[v, .bool a]) = .returned (.tuple #[v, .bool b]) := by rw [h]

set_option maxRecDepth 100000 in
set_option maxHeartbeats 4000000 in
theorem spec_PrizeShares (fs : List Int) (v : Value) (ps : List Int) (u : Value) (w : World) (hn : fs.length ≤ 1048576) (hn2 : ps.length ≤ 1048576) (h : Sl (Value.int .i64) 0 w v fs) (g : Sl (Value.int .i64) 0 w u ps) :
    Calls Try.prog 14 #[v, u] w fun e w' => ∃ r, e = .returned (.tuple #[r, .bool (ok_PrizeShares fs ps)]) ∧ SwF w' r (res_PrizeShares fs ps) w.heap.size w'.heap.size ∧ Below w.heap.size w w' := by
  have Hpc := Lib.hid (spec_PlaceChances fs v w hn h)
  obtain ⟨p, cap, rfl, hf⟩ := h
  obtain ⟨q, cap2, rfl, hg⟩ := g
  have Hg := Lib.hid hg
  clear hf hg
  cases hB : stackB fs
  · have Hok : Hid (ok_PrizeShares fs ps = false) := Lib.hid (by unfold ok_PrizeShares; rw [hB]; rfl)
    have Hre := Lib.hid (ps_no fs ps Hok.out)
    rw [show ok_PlaceChances fs = false from hB] at Hpc
    rw [Hok.out, Hre.out]
    clear hB
    generalize fs.length = n at *
    generalize ps.length = m at *
    go_enter Try.func14, Try.ntmps14
    go_wp2_with fail
    refine Hpc.out.mono ?_
    rintro e w1 ⟨r, rfl, -, hb⟩
    have Hb := Lib.hid hb
    clear hb
    go_wp2
    go_ret2
    exact ⟨_, rfl, SwF.nil _ _ _ _ _, Hb.out⟩
  · obtain ⟨n1, n6, -⟩ := stackB_yes hB
    rw [show ok_PlaceChances fs = true from hB, show res_PlaceChances fs = allC fs fs.length by unfold res_PlaceChances; rw [hB]; rfl] at Hpc
    by_cases hlen : ps.length = fs.length
    · have Hst : Hid (stakesB ps = true → ok_PrizeShares fs ps = true ∧ res_PrizeShares fs ps = shrL (allC fs fs.length) ps fs.length fs.length) := Lib.hid (fun hk => by
        have ho : ok_PrizeShares fs ps = true := by unfold ok_PrizeShares; rw [hB, decide_eq_true hlen, hk]; rfl
        exact ⟨ho, ps_yes fs ps ho⟩)
      have Hbad : Hid (∀ k, k < ps.length → ps.getD k 0 < 0 ∨ 1000000 < ps.getD k 0 → ok_PrizeShares fs ps = false ∧ res_PrizeShares fs ps = []) := Lib.hid (fun k hk hx => by
        have ho : ok_PrizeShares fs ps = false := by unfold ok_PrizeShares; rw [stakesB_bad k hk hx, Bool.and_false, Bool.and_false]
        exact ⟨ho, ps_no fs ps ho⟩)
      have Hgood := Lib.hid (stakesB_of (fs := ps))
      have HC : Hid ((allC fs fs.length).length = fs.length * fs.length) := Lib.hid (allC_len fs fs.length)
      rw [hlen] at Hbad Hgood Hg hn2 ⊢
      clear hB hlen
      generalize ok_PrizeShares fs ps = OK at *
      generalize res_PrizeShares fs ps = RES at *
      generalize allC fs fs.length = C at *
      obtain ⟨i0, hi, hz0, hz1, hz2⟩ := info_parts (show (Try.prog.info? 55).map (fun i => (i.zero, i.size, i.bytes)) = some (some (.float .f32 0), 1, 4) by kernel_rfl)
      generalize fs.length = n at *
      have Hs1 := Lib.hid (fun i k => (show shrC C ps n i (k + 1) = fop .add .f32 (shrC C ps n i k) (fop .mul .f32 (C.getD (i * n + k) 0) (floatOfInt .f32 (ps.getD k 0))) from rfl))
      have Hs0 := Lib.hid (fun i => (show shrC C ps n i 0 = 0 from rfl))
      have Hnx := Lib.hid (shrL_next C ps n)
      have Hll := Lib.hid (shrL_len C ps n)
      have hne : ((n : Int) != (n : Int)) = false := by simp
      go_enter Try.func14, Try.ntmps14
      go_wp2_with fail
      refine Hpc.out.mono ?_
      rintro e w1 ⟨r, rfl, hr, hb⟩
      have Hb := Lib.hid hb
      have hsz := hb.size
      obtain ⟨gs, eg, hsw⟩ := hr
      have hgl : gs.length = n * n := by rw [← HC.out, ← eg, List.length_map]
      have hnn : 1 * 1 ≤ n * n := Nat.mul_le_mul n1 n1
      obtain ⟨pr, capr, rfl, hfr⟩ := hsw
      obtain ⟨hcr, br, offr, rfl, gr1, gr2, gr3, hcr2⟩ := hfr (by omega)
      have Hcell : Hid (∀ wr, Below w1.heap.size w1 wr → ∀ j, j < n * n → wr.cell? ⟨br, offr + j, none⟩ = some (.float .f32 (gs.getD j 0)) ∧ cn .f32 (gs.getD j 0) = C.getD j 0) := Lib.hid (fun wr hbw j hj => by
        refine ⟨by rw [hbw.cell (by show br < _; omega)]; exact (hcr2 j (by omega)).1, ?_⟩
        rw [← eg]; simp [List.getD, show j < gs.length by omega])
      have Hpri : Hid (∀ wr, Below w1.heap.size w1 wr → 0 < n → ∃ b off, n ≤ cap2 ∧ q = some ⟨b, off, none⟩ ∧ ∀ j, j < n → wr.cell? ⟨b, off + j, none⟩ = some (.int .i64 (ps.getD j 0))) := Lib.hid (fun wr hbw h0 => by
        obtain ⟨hcap, b, off, rfl, hbs, hc⟩ := Hg.out h0
        exact ⟨b, off, hcap, rfl, fun j hj => by rw [hbw.cell (by show b < _; omega), Hb.out.cell hbs]; exact hc j hj⟩)
      have hlr : n * n ≤ 36 := by
        have : n * n ≤ 6 * 6 := Nat.mul_le_mul n6 n6
        omega
      rw [hgl] at hcr ⊢
      clear hb hfr hcr2 eg hgl
      generalize hNN : n * n = NN at *
      have HNN := Lib.hid hNN
      clear hNN hnn
      go_wp2
      go_loopw [9, 10] (fun out i wr => ∃ a : Nat, a ≤ n ∧ i = .int .i64 (a : Int) ∧ Hid (OwnF wr w1.heap.size out (shrL C ps n a)) ∧ Below w1.heap.size w1 wr ∧ Hid (a = 0 ∨ ∀ j, j < n → 0 ≤ ps.getD j 0 ∧ ps.getD j 0 ≤ 1000000)) (fun _ i _ => n - (intOf i).toNat)
      case atStart => exact ⟨0, Nat.zero_le _, rfl, Lib.hid ⟨[], rfl, World.ownsRow_made w1 #[] 0 (Nat.le_refl _) (Nat.zero_le _) rfl⟩, (Below.refl _ _).alloc (Nat.le_refl _) _, Lib.hid (.inl rfl)⟩
      case round =>
        obtain ⟨a, ha, rfl, how, hbw, hgo⟩ := hrel
        have Hbw := Lib.hid hbw
        have hsw2 := hbw.size
        clear hbw
        by_cases hlt : a < n
        · obtain ⟨wi, rfl⟩ : ∃ wi : World, wi = wr := ⟨_, rfl⟩
          go_wp2
          go_loopw [11, 36] (fun s i wr => ∃ c x : Nat, c ≤ n ∧ i = .int .i64 (c : Int) ∧ s = .float .f32 x ∧ Hid (cn .f32 x = shrC C ps n a c) ∧ Hid (∀ j, j < c → 0 ≤ ps.getD j 0 ∧ ps.getD j 0 ≤ 1000000) ∧ Hid (Drawn wi wr)) (fun _ i _ => n - (intOf i).toNat)
          case atStart => exact ⟨0, 0, Nat.zero_le _, rfl, rfl, Lib.hid (by rw [Hs0.out]; exact Is.zero.1), Lib.hid (fun j hj => absurd hj (by omega)), Lib.hid (Drawn.refl _)⟩
          case round =>
            obtain ⟨c, x, hc, rfl, rfl, hx, hpj, hdr⟩ := hrel
            by_cases hlt2 : c < n
            · have hbz := Hbw.out.trans (hdr.out.below w1.heap.size)
              obtain ⟨b, off, hcap, rfl, hpc⟩ := Hpri.out wr hbz (by omega)
              have c1 := hpc c hlt2
              have hidx : a * n + c < NN := by
                rw [← HNN.out]
                have h1 : (a + 1) * n ≤ n * n := Nat.mul_le_mul (by omega) (Nat.le_refl _)
                rw [Nat.succ_mul] at h1
                omega
              obtain ⟨c2, hcn⟩ := Hcell.out wr hbz (a * n + c) hidx
              have Hcn := Lib.hid hcn
              have Hs := Lib.hid (Hs1.out a c)
              clear hpc hbz hcn
              by_cases hpx : 0 ≤ ps.getD c 0 ∧ ps.getD c 0 ≤ 1000000
              · have Hp2 : Hid (∀ j, j < c + 1 → 0 ≤ ps.getD j 0 ∧ ps.getD j 0 ≤ 1000000) := Lib.hid (fun j hj => by
                  by_cases e : j = c
                  · subst e; exact hpx
                  · exact hpj.out j (by omega))
                have Hin := Lib.hid (fun z => in_yes (ps.getD c 0) 0 1000000 z hpx.1 hpx.2)
                have hmi : (a : Int) * (n : Int) + (c : Int) = ((a * n + c : Nat) : Int) := by push_cast; rfl
                have hm0 : 0 ≤ (a : Int) * (n : Int) ∧ (a : Int) * (n : Int) ≤ 36 := by
                  have : ((a * n : Nat) : Int) = (a : Int) * (n : Int) := Int.natCast_mul a n
                  omega
                obtain ⟨m0, m1⟩ := hm0
                have hm2 : ((a : Int) * (n : Int) + (c : Int)).toNat = a * n + c := by rw [hmi]; rfl
                have hi1 : (a : Int) * (n : Int) + (c : Int) < (NN : Int) := by rw [hmi]; omega
                have hi0 : 0 ≤ (a : Int) * (n : Int) + (c : Int) := by omega
                clear hpx hmi
                generalize ps.getD c 0 = y at *
                generalize gs.getD (a * n + c) 0 = g at *
                go_wp2_with (go_at_call 48; refine (Hin.out _).mono ?_; rintro e w' ⟨rfl, rfl⟩)
                have hw1 : IntKind.i64.wrap ((a : Int) * (n : Int)) = (a : Int) * (n : Int) := IntWalk.i64_in _ (by omega)
                have hw2 : IntKind.i64.wrap ((a : Int) * (n : Int) + (c : Int)) = (a : Int) * (n : Int) + (c : Int) := IntWalk.i64_in _ (by omega)
                go_region_with (first | (refine upon_farith .mul (by simp) _ .f32 _ _ ?_; intro m nm Hm) | (refine upon_farith .add (by simp) _ .f32 _ _ ?_; intro z nz Hz))
                all_goals
                  clear hw1 hw2
                  go_wp2
                  go_roundw
                  case rel => exact ⟨c + 1, _, by omega, by go_num, rfl, Lib.hid (by rw [Hs.out]; exact shr_step hx.out Hcn.out (by assumption : Hid _).out (by assumption : Hid _).out), Hp2, Lib.hid (hdr.out.more _)⟩
                  case measure => simp [intOf]; omega
              · have E := Lib.hid (Hbad.out c hlt2 (by omega))
                have Hin := Lib.hid (fun z => in_no (ps.getD c 0) 0 1000000 z (by omega))
                have Hbz := Lib.hid (Hb.out.trans ((Hbw.out.trans (hdr.out.below _)).mono hsz))
                clear hpx
                generalize ps.getD c 0 = y at *
                go_wp2_with (go_at_call 48; refine (Hin.out _).mono ?_; rintro e w' ⟨rfl, rfl⟩)
                go_ret2
                exact ⟨_, ret2b' E.out.1.symm, by rw [E.out.2]; exact SwF.nil _ _ _ _ _, Hbz.out⟩
            · obtain rfl : c = n := by omega
              obtain ⟨gs2, eg2, hown⟩ := how.out.below (hdr.out.below _)
              have Hown := Lib.hid hown
              have Eg2 := Lib.hid eg2
              have Hl := Lib.hid (Hll.out a)
              have hl : (shrL C ps c a).length ≤ 6 := by rw [Hl.out]; omega
              have Hn := Lib.hid (Hnx.out a)
              have Hbz := Lib.hid (Hbw.out.trans (hdr.out.below w1.heap.size))
              have hszr := Hbz.out.size
              clear hown eg2
              generalize hL : shrL C ps c a = L at *
              have HL := Lib.hid hL
              clear hL
              go_wp2_with (at_builtin; refine wpList_append_own _ rfl _ _ 23 rfl w1.heap.size 55 i0 (.float .f32 0) 1 4 (by kernel_rfl) hi hz0 hz1 hz2 rfl (by decide) _ _ _ rfl (Hown.out.alloc _) ⟨wr.heap.size, 0, none⟩ 1 1 [.float .f32 x] rfl rfl (cell_one_new _ _ _) (one_flt _) (by unfold maxLen; omega) (by omega) (by simp; omega) ?_; intro v2 w2 hown2 hgrow2 _)
              have Hown2 := Lib.hid (OwnF.snoc' Eg2.out hx.out hown2)
              have Hb4 := Lib.hid ((Hbz.out.alloc (by omega) _).grown hgrow2 (by simp; omega) (fun b hb => (Hown.out.lt b hb).1))
              clear hown2 hgrow2
              go_wp2
              go_roundw
              case rel => exact ⟨a + 1, by omega, by go_num, Lib.hid (by rw [Hn.out]; exact Hown2.out), Hb4.out, Lib.hid (.inr hpj.out)⟩
              case measure => simp [intOf]; omega
        · obtain rfl : a = n := by omega
          have E := Lib.hid (Hst.out (Hgood.out (hgo.out.resolve_left (by omega))))
          have Hbz := Lib.hid (Hb.out.trans (Hbw.out.mono hsz))
          have Hfin : Hid (SwF wr _ RES w.heap.size wr.heap.size) := Lib.hid (by
            rw [E.out.2]
            obtain ⟨gs3, eg3, hg3⟩ := how.out.sw
            exact ⟨gs3, eg3, hg3.mono hsz (Nat.le_refl _) (Nat.le_refl _)⟩)
          go_wp2
          go_ret2
          exact ⟨_, ret2b' E.out.1.symm, Hfin.out, Hbz.out⟩
    · have Hok : Hid (ok_PrizeShares fs ps = false) := Lib.hid (by unfold ok_PrizeShares; rw [decide_eq_false hlen]; simp)
      have Hre := Lib.hid (ps_no fs ps Hok.out)
      rw [Hok.out, Hre.out]
      have hne : ((ps.length : Int) != (fs.length : Int)) = true := by simp; omega
      have hne2 : ((ps.length : Int) = (fs.length : Int)) = False := eq_false (by omega)
      clear hB hlen
      generalize fs.length = n at *
      generalize ps.length = m at *
      go_enter Try.func14, Try.ntmps14
      go_wp2_with fail
      refine Hpc.out.mono ?_
      rintro e w1 ⟨r, rfl, -, hb⟩
      have Hb := Lib.hid hb
      clear hb
      go_wp2
      go_ret2
      exact ⟨_, rfl, SwF.nil _ _ _ _ _, Hb.out⟩
end Go.Proofs.Ytadbblidmmekiaa
