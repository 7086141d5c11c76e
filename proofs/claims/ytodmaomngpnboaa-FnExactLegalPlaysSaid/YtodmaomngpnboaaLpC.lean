/- Contracts: the cards that may be played, in the program. -/
import Derived.Test.YtodmaomngpnboaaLpA
import Derived.Test.YtodmaomngpnboaaLpB
import Derived.Test.YtodmaomngpnboaaIh
import Derived.Test.YtodmaomngpnboaaYc
set_option linter.unusedVariables false
namespace Go.Proofs.Ytodmaomngpnboaa
open Go.RowKit


set_option maxRecDepth 100000 in
set_option maxHeartbeats 4000000 in
theorem len64c_1 (w : World) : Calls Try.prog 191 #[.int .u64 1] w fun e w' => ∃ z : Int, e = .returned (.int .i64 z) ∧ w = w' := by
  go_enter Try.func191, Try.ntmps191
  go_wp2
  go_ret
  exact ⟨_, ret_int (show _ = ((1 : Nat) : Int) by decide +kernel), rfl⟩
set_option maxRecDepth 100000 in
set_option maxHeartbeats 4000000 in
theorem len64c_2 (w : World) : Calls Try.prog 191 #[.int .u64 2] w fun e w' => ∃ z : Int, e = .returned (.int .i64 z) ∧ w = w' := by
  go_enter Try.func191, Try.ntmps191
  go_wp2
  go_ret
  exact ⟨_, ret_int (show _ = ((2 : Nat) : Int) by decide +kernel), rfl⟩
set_option maxRecDepth 100000 in
set_option maxHeartbeats 4000000 in
theorem len64c_3 (w : World) : Calls Try.prog 191 #[.int .u64 3] w fun e w' => ∃ z : Int, e = .returned (.int .i64 z) ∧ w = w' := by
  go_enter Try.func191, Try.ntmps191
  go_wp2
  go_ret
  exact ⟨_, ret_int (show _ = ((2 : Nat) : Int) by decide +kernel), rfl⟩
set_option maxRecDepth 100000 in
set_option maxHeartbeats 4000000 in
theorem len64c_4 (w : World) : Calls Try.prog 191 #[.int .u64 4] w fun e w' => ∃ z : Int, e = .returned (.int .i64 z) ∧ w = w' := by
  go_enter Try.func191, Try.ntmps191
  go_wp2
  go_ret
  exact ⟨_, ret_int (show _ = ((3 : Nat) : Int) by decide +kernel), rfl⟩
set_option maxRecDepth 100000 in
set_option maxHeartbeats 4000000 in
theorem len64c_5 (w : World) : Calls Try.prog 191 #[.int .u64 5] w fun e w' => ∃ z : Int, e = .returned (.int .i64 z) ∧ w = w' := by
  go_enter Try.func191, Try.ntmps191
  go_wp2
  go_ret
  exact ⟨_, ret_int (show _ = ((3 : Nat) : Int) by decide +kernel), rfl⟩
set_option maxRecDepth 100000 in
set_option maxHeartbeats 4000000 in
theorem len64c_6 (w : World) : Calls Try.prog 191 #[.int .u64 6] w fun e w' => ∃ z : Int, e = .returned (.int .i64 z) ∧ w = w' := by
  go_enter Try.func191, Try.ntmps191
  go_wp2
  go_ret
  exact ⟨_, ret_int (show _ = ((3 : Nat) : Int) by decide +kernel), rfl⟩
set_option maxHeartbeats 4000000 in
theorem lenc_any (n : Nat) (h1 : 1 ≤ n) (h6 : n ≤ 6) (w : World) : Calls Try.prog 174 #[.int .u64 ((n : Nat) : Int)] w fun e w' => ∃ z : Int, e = .returned (.int .i64 z) ∧ w = w' := by
  have H : Hid (∀ z, Calls Try.prog 191 #[.int .u64 ((n : Nat) : Int)] z fun e w' => ∃ y : Int, e = .returned (.int .i64 y) ∧ z = w') := Lib.hid fun z => by
    obtain rfl | rfl | rfl | rfl | rfl | rfl : n = 1 ∨ n = 2 ∨ n = 3 ∨ n = 4 ∨ n = 5 ∨ n = 6 := by omega
    · exact len64c_1 z
    · exact len64c_2 z
    · exact len64c_3 z
    · exact len64c_4 z
    · exact len64c_5 z
    · exact len64c_6 z
  go_enter Try.func174, Try.ntmps174
  go_wp2_with (go_at_call 191; refine (H.out _).mono ?_; rintro e w' ⟨z, rfl, rfl⟩)
  go_ret
  exact ⟨_, rfl, rfl⟩
set_option maxRecDepth 100000 in
set_option maxHeartbeats 4000000 in
theorem pdqL_any (R : List Int) (n cap D off : Nat) (y : Int) (w : World) (hn : R.length = n) (h1 : 1 ≤ n) (h12 : n ≤ 12) (hr : Sw (Value.int .i64) 0 w (.slice (some ⟨D, off, none⟩) n cap) R D (D + 1)) :
    Calls Try.prog 173 #[.slice (some ⟨D, off, none⟩) n cap, .int .i64 0, .int .i64 (n : Int), .int .i64 y] w fun e w' => e = .returned (.tuple #[]) ∧ Sw (Value.int .i64) 0 w' (.slice (some ⟨D, off, none⟩) n cap) (srtL R) D (D + 1) ∧ Below D w w' := by
  have H := Lib.hid (insL_any R n cap D off w hn h1 h12 hr)
  clear hn hr
  go_enter Try.func173, Try.ntmps173
  go_wp2
  go_loopw [1, 2, 3] (fun av bv cv wr => av = .int .i64 0 ∧ bv = .int .i64 (n : Int) ∧ cv = .int .i64 y ∧ Hid (wr = w)) (fun _ _ _ _ => 0)
  case atStart => exact ⟨rfl, rfl, rfl, Lib.hid rfl⟩
  case round =>
    obtain ⟨rfl, rfl, rfl, hw⟩ := hrel
    obtain rfl := hw.out
    have d : decide (n ≤ 12) = true := decide_eq_true h12
    go_wp2_with (go_at_call 181; refine (H.out).mono ?_; rintro e w' ⟨rfl, hx, hb⟩; have Hx := Lib.hid hx; have Hb := Lib.hid hb; clear hx hb)
    (try simp only [Exit.inBlock, Exit.then]); refine bodyPost_ret (results_none rfl _ _ _) rfl ?_
    exact ⟨rfl, Hx.out, Hb.out⟩
set_option maxHeartbeats 4000000 in
theorem sortL_any (R : List Int) (n cap D off : Nat) (w : World) (hn : R.length = n) (h1 : 1 ≤ n) (h6 : n ≤ 6) (hr : Sw (Value.int .i64) 0 w (.slice (some ⟨D, off, none⟩) n cap) R D (D + 1)) :
    Calls Try.prog 150 #[.slice (some ⟨D, off, none⟩) n cap] w fun e w' => e = .returned (.tuple #[]) ∧ Sw (Value.int .i64) 0 w' (.slice (some ⟨D, off, none⟩) n cap) (srtL R) D (D + 1) ∧ Below D w w' := by
  have H := Lib.hid (fun y => pdqL_any R n cap D off y w hn h1 (by omega) hr)
  have HL := Lib.hid (fun z => lenc_any n h1 h6 z)
  clear hn hr
  go_enter Try.func150, Try.ntmps150
  go_wp2_with (first | (go_at_call 174; refine (HL.out _).mono ?_; rintro e w' ⟨z, rfl, rfl⟩) | (go_at_call 173; refine (H.out _).mono ?_; rintro e w' ⟨rfl, hx, hb⟩; have Hx := Lib.hid hx; have Hb := Lib.hid hb; clear hx hb))
  go_end0
  exact ⟨rfl, Hx.out, Hb.out⟩
/-- a list's values, sorted anew -/
theorem sortedV_any (fs : List Int) (b off cap : Nat) (w0 w : World) (h1 : 1 ≤ fs.length) (h6 : fs.length ≤ 6) (hcap : fs.length ≤ cap) (hb : b < w0.heap.size)
    (hc : ∀ i, i < fs.length → w0.cell? ⟨b, off + i, none⟩ = some (.int .i64 (fs.getD i 0)))
    (hw : w = w0.alloc (.cells #[.slice (some ⟨b, off, none⟩) fs.length cap] 22)) :
    Calls Try.prog 99 #[.func (.func 151) #[] #[.pointer (some ⟨w0.heap.size, 0, none⟩)]] w fun e w' => ∃ r, e = .returned r ∧ Sw (Value.int .i64) 0 w' r (srtL fs) w.heap.size w'.heap.size ∧ Below w.heap.size w w' := by
  have H1 := Lib.hid (collectV_any fs b off cap w0 w (by omega) hcap hb hc hw)
  have H2 := Lib.hid (fun n c D o z hn hr => sortL_any fs n c D o z hn (by omega) (by omega) hr)
  have hlen := Lib.hid ((srtL_of fs).1.length_eq)
  clear hc hw hcap hb
  go_enter Try.func99, Try.ntmps99
  go_wp2_with fail
  refine H1.out.mono ?_
  rintro e w1 ⟨r, rfl, hr, hb1⟩
  obtain ⟨p, c, rfl, hx⟩ := id hr
  obtain ⟨hc1, D, o, rfl, hD1, hD2, hD3, -⟩ := hx h1
  have HS := Lib.hid (H2.out _ c D o w1 rfl (tightL hr))
  have Hb1 := Lib.hid hb1
  clear hr hx hb1
  go_wp2_with fail
  refine HS.out.mono ?_
  rintro e w2 ⟨rfl, hs, hb2⟩
  have hz2 := hb2.size
  have HSw := Lib.hid (hs.mono hD1 (show D + 1 ≤ w2.heap.size by omega) (Nat.le_refl _))
  have HB := Lib.hid (Hb1.out.trans (hb2.mono hD1))
  clear hs hb2
  go_wp2
  go_ret
  exact ⟨_, rfl, HSw.out, HB.out⟩
def suitI (x : Int) : Nat := x.toNat / 13
theorem suit_any (a : Nat) (h : a ≤ 51) (w : World) : Calls Try.prog 148 #[.int .i64 (a : Int)] w fun e w' => e = .returned (.int .i64 ((a / 13 : Nat) : Int)) ∧ w = w' := by
  go_enter Try.func148, Try.ntmps148
  go_wp2
  go_ret
  exact ⟨by first | rfl | exact ret_int (by omega) | simp, rfl⟩
theorem isCardL_any (a : Int) (w : World) : Calls Try.prog 97 #[.int .i64 a] w fun e w' => e = .returned (.bool (decide (0 ≤ a) && decide (a ≤ 51))) ∧ w = w' := by
  have H := Lib.hid (fun z => withinC_any a 0 51 z)
  go_enter Try.func97, Try.ntmps97
  go_wp2_with (go_at_call 71; refine (H.out _).mono ?_; rintro e w' ⟨rfl, rfl⟩)
  go_ret
  exact ⟨rfl, rfl⟩
/-- those of the first k that are of a suit -/
def ofSuit (l : List Int) (s : Nat) : Nat → List Int
  | 0 => []
  | k + 1 => ofSuit l s k ++ (if suitI (l.getD k 0) = s then [l.getD k 0] else [])
theorem ofSuit_len (l : List Int) (s : Nat) : ∀ k, (ofSuit l s k).length ≤ k
  | 0 => Nat.le_refl _
  | k + 1 => by
    have := ofSuit_len l s k
    rw [ofSuit, List.length_append]
    split <;> simp <;> omega
theorem ofSuit_yes (l : List Int) (s k : Nat) (h : suitI (l.getD k 0) = s) : ofSuit l s (k + 1) = ofSuit l s k ++ [l.getD k 0] := by rw [ofSuit, if_pos h]
theorem ofSuit_no (l : List Int) (s k : Nat) (h : ¬ suitI (l.getD k 0) = s) : ofSuit l s (k + 1) = ofSuit l s k := by rw [ofSuit, if_neg h, List.append_nil]
/-- what may be played -/
def playL (l : List Int) (s : Nat) : List Int := if (ofSuit l s l.length).length = 0 then l else ofSuit l s l.length
set_option maxRecDepth 100000 in
set_option maxHeartbeats 4000000 in
theorem plays_any (l : List Int) (v : Value) (led lo : Nat) (w : World) (hn : l.length ≤ 100) (hl : ∀ i, i < l.length → 0 ≤ l.getD i 0 ∧ l.getD i 0 ≤ 51) (hled : led ≤ 51) (hlo : lo ≤ w.heap.size) (h : Sw (Value.int .i64) 0 w v l lo w.heap.size) :
    Calls Try.prog 98 #[v, .int .i64 (led : Int)] w fun e w' => ∃ r, e = .returned r ∧ Sw (Value.int .i64) 0 w' r (playL l (led / 13)) lo w'.heap.size ∧ Below w.heap.size w w' := by
  obtain ⟨i0, hi, hz0, hz1, hz2⟩ := info_parts (show (Try.prog.info? 2).map (fun i => (i.zero, i.size, i.bytes)) = some (some (.int .i64 0), 1, 8) by kernel_rfl)
  have Hs := Lib.hid h
  have hsl := h.sl
  obtain ⟨p, cap, rfl, hf⟩ := hsl
  have Hf := Lib.hid hf
  have HL := Lib.hid hl
  have HR := Lib.hid (show playL l (led / 13) = if (ofSuit l (led / 13) l.length).length = 0 then l else ofSuit l (led / 13) l.length from rfl)
  have HS := Lib.hid (fun a h z => suit_any a h z)
  have HS0 := Lib.hid (suit_any led hled)
  clear h hf hl
  generalize led / 13 = s at *
  have H0 := Lib.hid (show ofSuit l s 0 = [] from rfl)
  have Hy := Lib.hid (ofSuit_yes l s)
  have Hno := Lib.hid (ofSuit_no l s)
  have Hll := Lib.hid (ofSuit_len l s)
  generalize playL l s = PL at *
  generalize ofSuit l s = L at *
  obtain ⟨m, hm1⟩ : ∃ m, m = l.length := ⟨_, rfl⟩
  rw [← hm1] at hn Hf HL HR ⊢
  have Hm1 := Lib.hid hm1
  clear hm1
  go_enter Try.func98, Try.ntmps98
  go_wp2
  go_loopw [5, 10] (fun q i wr => ∃ (k : Nat) (lv : Value), lv = q ∧ k ≤ m ∧ i = .int .i64 (k : Int) ∧ Hid (wr.ownsRow w.heap.size 2 1 q (L k).length ((L k).map (Value.int .i64))) ∧ Hid (Below w.heap.size w wr)) (fun _ i _ => m - (intOf i).toNat)
  case atStart => exact ⟨0, _, rfl, Nat.zero_le _, rfl, Lib.hid (by rw [H0.out]; exact World.ownsRow_nil _ _ _ _), Lib.hid (Below.refl _ _)⟩
  case round =>
    obtain ⟨k, lv, rfl, hk, rfl, hown, hbw⟩ := hrel
    have hsz := hbw.out.size
    by_cases hlt : k < m
    · obtain ⟨hcap, b, off, rfl, hbs, hcell⟩ := Hf.out (by omega)
      have c2 := cell_keep hbw.out (hcell k hlt)
      obtain ⟨x0, x1⟩ := HL.out k hlt
      have hyk := Hy.out k
      have hnk := Hno.out k
      have hlk := Hll.out k
      clear hcell
      generalize l.getD k 0 = x at *
      obtain ⟨a, rfl⟩ : ∃ a : Nat, x = (a : Int) := ⟨x.toNat, by omega⟩
      have HSa := Lib.hid (HS.out a (by omega))
      unfold suitI at hyk hnk
      rw [Int.toNat_natCast] at hyk hnk
      generalize a / 13 = t at *
      by_cases ht : t = s
      · subst ht
        have Hst := Lib.hid (hyk rfl)
        clear hyk hnk
        generalize L k = Lk at *
        go_wp2_with fail
        refine (HSa.out _).mono ?_
        rintro e w' ⟨rfl, rfl⟩
        go_wp2_with fail
        refine (HS0.out _).mono ?_
        rintro e w' ⟨rfl, rfl⟩
        go_wp2_with (at_builtin; refine wpList_append_own _ rfl _ _ 22 rfl w.heap.size 2 i0 (.int .i64 0) 1 8 (by kernel_rfl) hi hz0 hz1 hz2 rfl (by decide) _ _ _ rfl (hown.out.alloc _) ⟨wr.heap.size, 0, none⟩ 1 1 [.int .i64 (a : Int)] rfl rfl (cell_one_new _ _ _) (one_int _) (by unfold maxLen; omega) (by omega) (by simp; omega) ?_; intro v2 w2 hown2 hgrow2 _)
        have Hown2 := Lib.hid (own_addY hown2)
        have Hb2 := Lib.hid ((hbw.out.alloc (by omega) _).grown hgrow2 (by simp; omega) (fun b hb => (hown.out.lt b hb).1))
        clear hown2 hgrow2
        go_wp2
        go_roundw
        case rel => exact ⟨k + 1, _, rfl, by omega, by go_num, Lib.hid (by rw [Hst.out]; exact Hown2.out), Hb2⟩
        case measure => simp [intOf]; omega
      · have Hst := Lib.hid (hnk ht)
        have nb : ((t : Int) == (s : Int)) = false := by rw [beq_eq_false_iff_ne]; omega
        have nb2 : ((t : Int) = (s : Int)) = False := eq_false (by omega)
        have nb3 : (t = s) = False := eq_false ht
        clear hyk hnk
        go_wp2_with fail
        refine (HSa.out _).mono ?_
        rintro e w' ⟨rfl, rfl⟩
        go_wp2_with fail
        refine (HS0.out _).mono ?_
        rintro e w' ⟨rfl, rfl⟩
        go_wp2
        go_roundw
        case rel => exact ⟨k + 1, _, rfl, by omega, by go_num, Lib.hid (by rw [Hst.out]; exact hown.out), hbw⟩
        case measure => simp [intOf]; omega
    · obtain rfl : k = m := by omega
      have Hw := Lib.hid (Sw.of_owns (d := 0) hown.out rfl)
      have HB := Lib.hid hbw.out
      have hRk := HR.out
      have HSk := Lib.hid (show Sw (Value.int .i64) 0 wr (.slice p k cap) l lo w.heap.size by have := Hs.out.later hbw.out; rw [← Hm1.out] at this; exact this)
      clear hown hbw HR HS HS0 Hs Hy Hno HL Hf H0
      have hlk := Hll.out k
      clear Hll
      generalize hLk : L k = Lk at *
      clear hLk
      obtain ⟨q, qc, rfl, -⟩ := id Hw.out
      obtain ⟨u, hu⟩ : ∃ u, u = Lk.length := ⟨_, rfl⟩
      by_cases hz : u = 0
      · rw [if_pos (hu.symm.trans hz)] at hRk
        have HRk := Lib.hid hRk
        rw [← hu]
        subst hz
        clear hRk hu
        go_wp2
        go_ret
        exact ⟨_, rfl, by rw [HRk.out]; exact HSk.out.mono (Nat.le_refl _) HB.out.size (Nat.le_refl _), HB.out⟩
      · rw [if_neg (fun e => hz (hu.trans e))] at hRk
        have HRk := Lib.hid hRk
        have Hu := Lib.hid hu
        have nb : ((u : Int) == 0) = false := by rw [beq_eq_false_iff_ne]; omega
        have nb2 : ((u : Int) = 0) = False := eq_false (by omega)
        have nb3 : (u = 0) = False := eq_false hz
        rw [← hu]
        clear hRk hu
        go_wp2
        go_ret
        exact ⟨_, rfl, by rw [HRk.out, Hu.out]; exact Hw.out.mono hlo (Nat.le_refl _) (Nat.le_refl _), HB.out⟩
def okLP (fs : List Int) (a : Int) : Bool := handB 1 6 fs && (decide (0 ≤ a) && decide (a ≤ 51))
def ok_LegalPlays (fs : List Int) (a : Int) : Bool := okLP fs a
noncomputable def res_LegalPlays (fs : List Int) (a : Int) : List Int := if okLP fs a = true then playL (srtL fs) (a.toNat / 13) else []
theorem srtL_len (fs : List Int) : (srtL fs).length = fs.length := (srtL_of fs).1.length_eq
theorem playL_len (l : List Int) (s : Nat) : (playL l s).length ≤ l.length := by
  unfold playL
  split
  · exact Nat.le_refl _
  · exact ofSuit_len l s _
theorem okLP_len {fs : List Int} {a : Int} (h : okLP fs a = true) : 1 ≤ fs.length ∧ fs.length ≤ 6 ∧ 0 ≤ a ∧ a ≤ 51 ∧ cardsB fs = true := by
  unfold okLP handB at h
  simp only [Bool.and_eq_true, decide_eq_true_eq] at h
  exact ⟨h.1.1.1, h.1.1.2, h.2.1, h.2.2, h.1.2⟩
theorem len_LegalPlays (fs : List Int) (a : Int) : (res_LegalPlays fs a).length ≤ 1048576 := by
  unfold res_LegalPlays
  split
  · rename_i h
    have h1 := (okLP_len h).2.1
    have h2 := playL_len (srtL fs) (a.toNat / 13)
    rw [srtL_len] at h2
    omega
  · exact Nat.zero_le _
theorem srtL_card {fs : List Int} (h : cardsB fs = true) (i : Nat) (hi : i < (srtL fs).length) : 0 ≤ (srtL fs).getD i 0 ∧ (srtL fs).getD i 0 ≤ 51 := by
  rw [getD_lt _ _ _ hi]
  have hm := (srtL_of fs).1.mem_iff.1 (List.getElem_mem hi)
  obtain ⟨j, hj, e⟩ := List.getElem_of_mem hm
  have := cardsB_at h j hj
  rw [← e, ← getD_lt fs 0 j hj]
  unfold handAt at this
  simp only [Bool.and_eq_true, decide_eq_true_eq] at this
  omega
set_option maxHeartbeats 4000000 in
theorem impl_LegalPlays (fs : List Int) (v : Value) (a : Int) (al : -9223372036854775808 ≤ a) (au : a ≤ 9223372036854775807) (w : World) (hn : fs.length ≤ 1048576) (h : Sl (Value.int .i64) 0 w v fs) :
    Calls Try.prog 43 #[v, .int .i64 a] w fun e w' => ∃ r, e = .returned (.tuple #[r, .bool (ok_LegalPlays fs a)]) ∧ Sw (Value.int .i64) 0 w' r (res_LegalPlays fs a) w.heap.size w'.heap.size ∧ Below w.heap.size w w' := by
  have HH := Lib.hid (handOf_any fs v 1 6 w hn (by omega) (by omega) h)
  have HC := Lib.hid (fun z => isCardL_any a z)
  by_cases hok : okLP fs a = true
  · obtain ⟨k1, k2, k3, k4, k5⟩ := okLP_len hok
    have e1 : ok_LegalPlays fs a = true := hok
    have e2 : res_LegalPlays fs a = playL (srtL fs) (a.toNat / 13) := if_pos hok
    rw [e1, e2]
    have e3 : handB 1 6 fs = true := by unfold okLP at hok; exact (Bool.and_eq_true_iff.1 hok).1
    have e4 : (decide (0 ≤ a) && decide (a ≤ 51)) = true := by unfold okLP at hok; exact (Bool.and_eq_true_iff.1 hok).2
    rw [e3] at HH
    rw [e4] at HC
    clear e1 e2 e3 e4 hok
    obtain ⟨t, rfl⟩ : ∃ t : Nat, a = (t : Int) := ⟨a.toNat, by omega⟩
    rw [Int.toNat_natCast]
    obtain ⟨p, cap, rfl, hf⟩ := id h
    obtain ⟨hcap, b, off, rfl, hbs, hcell⟩ := hf k1
    have HV := Lib.hid (fun z => valuesF_made (.slice (some ⟨b, off, none⟩) fs.length cap) _ _ _ rfl z)
    have HD := Lib.hid (fun (z : World) (hz : Below w.heap.size w z) => sortedV_any fs b off cap z _ k1 k2 hcap (Nat.lt_of_lt_of_le hbs hz.size) (fun i hi => cell_keep hz (hcell i hi)) rfl)
    have HP := Lib.hid (fun r lo z hlo hs => plays_any (srtL fs) r t lo z (by rw [srtL_len]; omega) (fun i hi => srtL_card k5 i hi) (by omega) hlo hs)
    clear hf hcell h
    go_enter Try.func43, Try.ntmps43
    go_wp2_with fail
    refine HH.out.mono ?_
    rintro e w1 ⟨rfl, hb1⟩
    have HB1 := Lib.hid hb1
    have HD1 := Lib.hid (HD.out w1 hb1)
    clear hb1 HD
    go_wp2_with fail
    refine (HC.out _).mono ?_
    rintro e w' ⟨rfl, rfl⟩
    go_wp2_with fail
    refine (HV.out _).mono ?_
    rintro e w2 ⟨rfl, hw2⟩
    rw [← hw2] at HD1
    have HB2 := Lib.hid (show Below w.heap.size w w2 by rw [hw2]; exact HB1.out.alloc HB1.out.size _)
    clear hw2
    go_wp2_with fail
    refine HD1.out.mono ?_
    rintro e w3 ⟨r3, rfl, h3, hb3⟩
    have HB3 := Lib.hid (HB2.out.trans (hb3.mono HB2.out.size))
    have HP3 := Lib.hid (HP.out r3 w.heap.size w3 HB3.out.size (h3.mono HB2.out.size (Nat.le_refl _) (Nat.le_refl _)))
    clear h3 hb3 HP
    go_wp2_with fail
    refine HP3.out.mono ?_
    rintro e w4 ⟨r4, rfl, h4, hb4⟩
    have H4 := Lib.hid h4
    have HB4 := Lib.hid (HB3.out.trans (hb4.mono HB3.out.size))
    clear h4 hb4
    go_wp2
    go_ret2
    exact ⟨_, rfl, H4.out, HB4.out⟩
  · have e1 : ok_LegalPlays fs a = false := by unfold ok_LegalPlays; exact Bool.eq_false_iff.2 hok
    have e2 : res_LegalPlays fs a = [] := if_neg hok
    rw [e1, e2]
    clear e1 e2
    unfold okLP at hok
    cases e3 : handB 1 6 fs with
    | false =>
      rw [e3] at HH
      obtain ⟨p, cap, rfl, -⟩ := id h
      clear hok e3 h
      go_enter Try.func43, Try.ntmps43
      go_wp2_with (refine HH.out.mono ?_; rintro e w1 ⟨rfl, hb1⟩; have HB1 := Lib.hid hb1; clear hb1)
      go_ret2
      exact ⟨_, rfl, Sw.nil _ _ _ _ _ _ _, HB1.out⟩
    | true =>
      rw [e3, Bool.true_and] at hok
      rw [Bool.eq_false_iff.2 hok] at HC
      rw [e3] at HH
      obtain ⟨p, cap, rfl, -⟩ := id h
      clear hok e3 h
      go_enter Try.func43, Try.ntmps43
      go_wp2_with fail
      refine HH.out.mono ?_
      rintro e w1 ⟨rfl, hb1⟩
      have HB1 := Lib.hid hb1
      clear hb1
      go_wp2_with fail
      refine (HC.out _).mono ?_
      rintro e w' ⟨rfl, rfl⟩
      go_wp2
      go_ret2
      exact ⟨_, rfl, Sw.nil _ _ _ _ _ _ _, HB1.out⟩

end Go.Proofs.Ytodmaomngpnboaa
