/- Contracts: borders, leads, waits, parts of words, in both texts. -/
import Derived.Test.YtpidkedcnhohdabWc
set_option linter.unusedVariables false
namespace Go.Proofs.Ytpidkedcnhohdab
open Go.RowKit

set_option maxRecDepth 100000 in
set_option maxHeartbeats 1000000 in
theorem borders_spec (fs : List Int) (v : Value) (w : World) (hn : fs.length ≤ 1000) (h : Sl (Value.int .i64) 0 w v fs) :
    Calls Try.prog 46 #[v] w fun e w' => ∃ r, e = .returned r ∧ Sw (Value.int .i64) 0 w' r (overL fs fs fs.length) w.heap.size w'.heap.size ∧ Below w.heap.size w w' := by
  obtain ⟨i0, hi, hz0, hz1, hz2⟩ := info_parts (show (Try.prog.info? 2).map (fun i => (i.zero, i.size, i.bytes)) = some (some (.int .i64 0), 1, 8) by kernel_rfl)
  have HA := Lib.hid h
  have HE := Lib.hid (fun k z hz (hk : k ≤ 1000000) (h1 : 1 ≤ k) => ends_any fs fs v v k z (by omega) (by omega) (by omega) h1 hz hz)
  obtain ⟨p, cap, rfl, hf⟩ := h
  clear hf
  have Ho := Lib.hid (fun k => overL_len fs fs k)
  generalize fs.length = n at *
  go_enter Try.func46, Try.ntmps46
  go_wp2
  go_loopw [3, 4] (fun out i wr => ∃ k : Nat, k ≤ n ∧ i = .int .i64 ((k : Int) + 1) ∧ wr.ownsRow w.heap.size 2 1 out (overL fs fs k).length ((overL fs fs k).map (Value.int .i64)) ∧ Below w.heap.size w wr) (fun _ i _ => n + 1 - (intOf i).toNat)
  case atStart => exact ⟨0, Nat.zero_le _, by go_num, World.ownsRow_made w #[] 0 (Nat.le_refl _) (Nat.zero_le _) rfl, (Below.refl _ _).alloc (Nat.le_refl _) _⟩
  case round =>
    obtain ⟨k, hk, rfl, hown, hb⟩ := hrel
    have Hown := Lib.hid hown
    have Hb := Lib.hid hb
    have hsz := hb.size
    have hol := Ho.out k
    clear hown hb
    by_cases hlt : k < n
    · have Hh := Lib.hid (HE.out (k + 1) wr (HA.out.later Hb.out) (by omega) (by omega))
      cases he : endsB fs fs (k + 1)
      · rw [he] at Hh
        have Hno := Lib.hid (overL_no he)
        clear he
        go_wp2_with fail
        refine Hh.out.mono ?_
        rintro e w' ⟨rfl, nq, rfl⟩
        go_wp2
        go_roundw
        case rel => exact ⟨k + 1, by omega, by go_num, by have hx := Hown.out; rw [Hno.out]; exact hx, below_drewN Hb.out _⟩
        case measure => simp [intOf]; omega
      · rw [he] at Hh
        have Hyes := Lib.hid (overL_yes he)
        clear he
        go_wp2_with fail
        refine Hh.out.mono ?_
        rintro e w' ⟨rfl, nq, rfl⟩
        have Hown1 : Hid ((wr.drewN nq).ownsRow w.heap.size 2 1 _ (overL fs fs k).length ((overL fs fs k).map (Value.int .i64))) := Lib.hid Hown.out
        go_wp2_with (at_builtin; refine wpList_append_own _ rfl _ _ 22 rfl w.heap.size 2 i0 (.int .i64 0) 1 8 (by kernel_rfl) hi hz0 hz1 hz2 rfl (by decide) _ _ _ rfl (Hown1.out.alloc _) ⟨(wr.drewN nq).heap.size, 0, none⟩ 1 1 [.int .i64 ((k : Int) + 1)] rfl rfl (cell_one_new _ _ _) (one_int _) (by unfold maxLen; omega) (by omega) (by simp; omega) ?_; intro v2 w2 hown2 hgrow2 _)
        have Hown2 := Lib.hid (own_add hown2)
        have Hb2 := Lib.hid (((below_drewN Hb.out nq).alloc (by simp; omega) _).grown hgrow2 (by simp; omega) (fun b hb => (Hown.out.lt b hb).1))
        clear hown2 hgrow2
        go_wp2
        go_roundw
        case rel => exact ⟨k + 1, by omega, by go_num, by rw [Hyes.out]; exact Hown2.out, Hb2.out⟩
        case measure => simp [intOf]; omega
    · obtain rfl : k = n := by omega
      go_wp2
      go_ret
      exact ⟨_, rfl, Sw.of_owns Hown.out rfl, Hb.out⟩
def ok_WordBorders (fs : List Int) : Bool := wordB fs 6
def res_WordBorders (fs : List Int) : List Int := if wordB fs 6 = true then overL fs fs fs.length else []
theorem len_WordBorders (fs : List Int) : (res_WordBorders fs).length ≤ 1048576 := by
  unfold res_WordBorders
  split
  · have := (wordB_bd ‹wordB fs 6 = true›).1
    have := overL_len fs fs fs.length
    omega
  · exact Nat.zero_le _
set_option maxHeartbeats 1000000 in
theorem impl_WordBorders (fs : List Int) (v : Value) (w : World) (hn : fs.length ≤ 1048576) (h : Sl (Value.int .i64) 0 w v fs) :
    Calls Try.prog 20 #[v] w fun e w' => ∃ r, e = .returned (.tuple #[r, .bool (ok_WordBorders fs)]) ∧ Sw (Value.int .i64) 0 w' r (res_WordBorders fs) w.heap.size w'.heap.size ∧ Below w.heap.size w w' := by
  have H0 := wordI_any fs v 6 w hn h
  unfold ok_WordBorders res_WordBorders
  cases hw : wordB fs 6
  · rw [if_neg Bool.false_ne_true]
    rw [hw] at H0
    have H0 := Lib.hid H0
    clear hw
    obtain ⟨p, cap, rfl, hf⟩ := h
    clear hf
    generalize fs.length = n at *
    go_enter Try.func20, Try.ntmps20
    go_wp2_with fail
    refine H0.out.mono ?_
    rintro e w' ⟨rfl, nq, rfl⟩
    go_wp2
    go_ret2
    exact ⟨_, rfl, Sw.nil _ _ _ _ _ _ _, below_drewN (Below.refl _ _) _⟩
  · rw [if_pos rfl]
    rw [hw] at H0
    have H0 := Lib.hid H0
    have hb := (wordB_bd hw).1
    clear hw
    have HO := fun q => overlaps_any fs fs v v (w.drewN q) (by omega) (by omega) (h.drewN q) (h.drewN q)
    rw [Nat.min_self] at HO
    have HO := Lib.hid HO
    obtain ⟨p, cap, rfl, hf⟩ := h
    clear hf
    generalize fs.length = n at *
    go_enter Try.func20, Try.ntmps20
    go_wp2_with fail
    refine H0.out.mono ?_
    rintro e w' ⟨rfl, nq, rfl⟩
    go_wp2_with fail
    refine (HO.out _).mono ?_
    rintro e w2 ⟨r, rfl, hs, hb2⟩
    have Hs := Lib.hid hs
    have Hb2 := Lib.hid hb2
    clear hs hb2
    go_wp2
    go_ret2
    exact ⟨_, rfl, Hs.out.mono (by simp) (Nat.le_refl _) (Nat.le_refl _), (below_drewN (Below.refl _ w) nq).trans (Hb2.out.mono (by simp))⟩
set_option maxHeartbeats 1000000 in
theorem spec_WordBorders (fs : List Int) (v : Value) (w : World) (hn : fs.length ≤ 1048576) (h : Sl (Value.int .i64) 0 w v fs) :
    Calls Try.prog 19 #[v] w fun e w' => ∃ r, e = .returned (.tuple #[r, .bool (ok_WordBorders fs)]) ∧ Sw (Value.int .i64) 0 w' r (res_WordBorders fs) w.heap.size w'.heap.size ∧ Below w.heap.size w w' := by
  have H0 := wordS_any fs v 6 w hn h
  unfold ok_WordBorders res_WordBorders
  cases hw : wordB fs 6
  · rw [if_neg Bool.false_ne_true]
    rw [hw] at H0
    have H0 := Lib.hid H0
    clear hw
    obtain ⟨p, cap, rfl, hf⟩ := h
    clear hf
    generalize fs.length = n at *
    go_enter Try.func19, Try.ntmps19
    go_wp2_with fail
    refine H0.out.mono ?_
    rintro e w' ⟨rfl, nq, rfl⟩
    go_wp2
    go_ret2
    exact ⟨_, rfl, Sw.nil _ _ _ _ _ _ _, below_drewN (Below.refl _ _) _⟩
  · rw [if_pos rfl]
    rw [hw] at H0
    have H0 := Lib.hid H0
    have hb := (wordB_bd hw).1
    clear hw
    have HO := Lib.hid (fun q => borders_spec fs v (w.drewN q) (by omega) (h.drewN q))
    obtain ⟨p, cap, rfl, hf⟩ := h
    clear hf
    generalize fs.length = n at *
    go_enter Try.func19, Try.ntmps19
    go_wp2_with fail
    refine H0.out.mono ?_
    rintro e w' ⟨rfl, nq, rfl⟩
    go_wp2_with fail
    refine (HO.out _).mono ?_
    rintro e w2 ⟨r, rfl, hs, hb2⟩
    have Hs := Lib.hid hs
    have Hb2 := Lib.hid hb2
    clear hs hb2
    go_wp2
    go_ret2
    exact ⟨_, rfl, Hs.out.mono (by simp) (Nat.le_refl _) (Nat.le_refl _), (below_drewN (Below.refl _ w) nq).trans (Hb2.out.mono (by simp))⟩
set_option maxRecDepth 100000 in
set_option maxHeartbeats 1000000 in
theorem lead_impl (fs gs : List Int) (v u : Value) (s : Int) (w : World) (hn : fs.length ≤ 12) (hm : gs.length ≤ 12) (s0 : 2 ≤ s) (s1 : s ≤ 6) (h : Sl (Value.int .i64) 0 w v fs) (g : Sl (Value.int .i64) 0 w u gs) :
    Calls Try.prog 49 #[v, u, .int .i64 s] w fun e w' => e = .returned (.int .i64 (leadI fs gs s fs.length)) ∧ Below w.heap.size w w' := by
  have HO := Lib.hid (overlaps_any fs gs v u w (by omega) (by omega) h g)
  have hM : min fs.length gs.length ≤ 12 := by omega
  have hlead : leadI fs gs s fs.length = worthL s (overL fs gs (min fs.length gs.length)) := by
    have hb := overL_beyond fs gs (min fs.length gs.length) (fs.length - min fs.length gs.length) (by omega)
    unfold leadI
    rw [show fs.length = min fs.length gs.length + (fs.length - min fs.length gs.length) by omega, hb]
    congr 3 <;> omega
  rw [hlead]
  have hbd := leadI_bd fs gs s s0 s1 (min fs.length gs.length) (by omega)
  unfold leadI at hbd
  have hat := fun i hi => overL_at fs gs (min fs.length gs.length) i hi
  have hl := overL_len fs gs (min fs.length gs.length)
  clear hlead
  obtain ⟨p, cap, rfl, hf⟩ := h
  obtain ⟨q, cap', rfl, hg⟩ := g
  clear hf hg
  generalize overL fs gs (min fs.length gs.length) = L at *
  have Hat : Hid (∀ i, i < L.length → 1 ≤ L.getD i 0 ∧ L.getD i 0 ≤ 12) := Lib.hid (fun i hi => by have := hat i hi; omega)
  have Htk := Lib.hid (fun i => worthL_take_le s (by omega) L i)
  have Hst := Lib.hid (fun i hi => worthL_take s L i hi)
  have HP := Lib.hid (fun (k : Nat) (hk : k < 13) z => powerQ_any s k z (by omega) (fun j hj => by have := pwI_bd6 s s0 s1 j (by omega); omega))
  have Hpb := Lib.hid (fun k (hk : k < 13) => pwI_bd6 s s0 s1 k (by omega))
  obtain ⟨hbd0, hbd1⟩ := hbd
  have Hbd := Lib.hid hbd1
  clear hat hbd0 hbd1
  generalize fs.length = n at *
  generalize gs.length = m at *
  go_enter Try.func49, Try.ntmps49
  go_wp2_with fail
  refine HO.out.mono ?_
  rintro e w1 ⟨r, rfl, hs, hb⟩
  have Hb1 := Lib.hid hb
  have hs := hs.sl
  obtain ⟨p', c', rfl, hc⟩ := hs
  have Hc := Lib.hid hc
  clear hb hc
  have hl2 : L.length ≤ 12 := by omega
  obtain ⟨N, hN⟩ : ∃ N, N = L.length := ⟨_, rfl⟩
  have HN := Lib.hid hN
  rw [← hN] at Hat Hst Hc hl2 ⊢
  clear hN hl hM
  go_wp2
  go_loopw [7, 14] (fun x i wr => ∃ k : Nat, k ≤ N ∧ i = .int .i64 (k : Int) ∧ x = .int .i64 (worthL s (L.take k)) ∧ Below w1.heap.size w1 wr) (fun _ i _ => N - (intOf i).toNat)
  case atStart => exact ⟨0, Nat.zero_le _, rfl, rfl, Below.refl _ _⟩
  case round =>
    obtain ⟨k, hk, rfl, rfl, hb⟩ := hrel
    have Hb := Lib.hid hb
    have hsz := hb.size
    clear hb
    by_cases hlt : k < N
    · obtain ⟨hcap, b, off, rfl, hbs, hc⟩ := Hc.out (by omega)
      have c1 := hc k hlt
      rw [← Hb.out.cell (by exact hbs)] at c1
      have ha := Hat.out k hlt
      have HS := Lib.hid (Hst.out k hlt)
      have ht := Htk.out k
      have ht2 := Htk.out (k + 1)
      rw [HS.out] at ht2
      have HPk := HP.out (L.getD k 0 - 1).toNat (by omega)
      rw [Int.toNat_of_nonneg (by omega)] at HPk
      have HPk := Lib.hid HPk
      have hpb := Hpb.out (L.getD k 0 - 1).toNat (by omega)
      have hB := Hbd.out
      obtain ⟨t0, t1⟩ := ht
      obtain ⟨t2, t3⟩ := ht2
      obtain ⟨a0, a1⟩ := ha
      obtain ⟨p0, p1⟩ := hpb
      clear hc
      generalize worthL s (L.take k) = X at *
      generalize worthL s L = T at *
      generalize pwI s (L.getD k 0 - 1).toNat = Y at *
      generalize L.getD k 0 = x at *
      go_wp2_with fail
      refine (HPk.out _).mono ?_
      rintro e w2 ⟨rfl, hb2⟩
      have Hb2 := Lib.hid (Hb.out.trans (hb2.mono hsz))
      clear hb2
      go_wp2
      go_roundw
      case rel => exact ⟨k + 1, by omega, by go_num, by rw [HS.out], Hb2.out⟩
      case measure => simp [intOf]; omega
    · obtain rfl : k = N := by omega
      go_wp2
      go_ret
      exact ⟨ret_int (by rw [HN.out, List.take_length]), Hb1.out.trans (Hb.out.mono Hb1.out.size)⟩
set_option maxRecDepth 100000 in
set_option maxHeartbeats 1000000 in
theorem lead_spec (fs gs : List Int) (v u : Value) (s : Int) (w : World) (hn : fs.length ≤ 12) (hm : gs.length ≤ 12) (s0 : 2 ≤ s) (s1 : s ≤ 6) (h : Sl (Value.int .i64) 0 w v fs) (g : Sl (Value.int .i64) 0 w u gs) :
    Calls Try.prog 81 #[v, u, .int .i64 s] w fun e w' => e = .returned (.int .i64 (leadI fs gs s fs.length)) ∧ Drawn w w' := by
  have HE := Lib.hid (fun k q (hk : k ≤ 1000000) (h1 : 1 ≤ k) => ends_any fs gs v u k (w.drewN q) (by omega) (by omega) (by omega) h1 (h.drewN q) (g.drewN q))
  have Hbd := Lib.hid (fun k (hk : k < 14) => leadI_bd fs gs s s0 s1 k hk)
  have HP := Lib.hid (fun (k : Nat) (hk : k < 13) z => powerS_any s k z (by omega) (fun j hj => by have := pwI_bd6 s s0 s1 j (by omega); omega))
  have Hpb := Lib.hid (fun k (hk : k < 13) => pwI_bd6 s s0 s1 k (by omega))
  obtain ⟨p, cap, rfl, hf⟩ := h
  obtain ⟨q, cap', rfl, hg⟩ := g
  clear hf hg
  generalize fs.length = n at *
  generalize gs.length = m at *
  go_enter Try.func81, Try.ntmps81
  go_wp2
  go_loopw [7, 8] (fun x i wr => ∃ k q : Nat, k ≤ n ∧ i = .int .i64 ((k : Int) + 1) ∧ x = .int .i64 (leadI fs gs s k) ∧ wr = w.drewN q) (fun _ i _ => n + 1 - (intOf i).toNat)
  case atStart => exact ⟨0, 0, Nat.zero_le _, by go_num, rfl, rfl⟩
  case round =>
    obtain ⟨k, dq, hk, rfl, rfl, rfl⟩ := hrel
    by_cases hlt : k < n
    · have Hh := Lib.hid (HE.out (k + 1) dq (by omega) (by omega))
      obtain ⟨b0, b1⟩ := Hbd.out k (by omega)
      obtain ⟨p0, p1⟩ := Hpb.out k (by omega)
      have HPk := Lib.hid (fun z => HP.out k (by omega) z)
      cases he : endsB fs gs (k + 1)
      · rw [he] at Hh
        have Hno := Lib.hid (leadI_no (s := s) he)
        clear he
        generalize leadI fs gs s k = X at *
        go_wp2_with fail
        refine Hh.out.mono ?_
        rintro e w' ⟨rfl, nq, rfl⟩
        go_wp2
        go_roundw
        case rel => exact ⟨k + 1, _, by omega, by go_num, by rw [Hno.out], rfl⟩
        case measure => simp [intOf]; omega
      · rw [he] at Hh
        have Hyes := Lib.hid (leadI_yes (s := s) he)
        clear he
        generalize leadI fs gs s k = X at *
        generalize pwI s k = Y at *
        go_wp2_with fail
        refine Hh.out.mono ?_
        rintro e w' ⟨rfl, nq, rfl⟩
        go_wp2_with fail
        refine (HPk.out _).mono ?_
        rintro e w' ⟨rfl, rfl⟩
        go_wp2
        go_roundw
        case rel => exact ⟨k + 1, _, by omega, by go_num, by rw [Hyes.out], rfl⟩
        case measure => simp [intOf]; omega
    · obtain rfl : k = n := by omega
      go_wp2
      go_ret
      exact ⟨rfl, _, rfl⟩
end Go.Proofs.Ytpidkedcnhohdab
